/- What fields does, for every text of a frame's length. -/
import Derived.Test.YtjolccidheflpaaGreatDoorX07
import Derived.Test.YtjolccidheflpaaGreatDoorX08
namespace Go.Proofs.YtjolccidheflpaaGreatDoor
open Go.Proofs.Tryz
set_option maxHeartbeats 8000000
set_option maxRecDepth 100000
open Go.RowKit
theorem rP(s:ByteArray)(i:Nat):aJ s i<4294967296:=by
 have:=lR s i;have:=lR s (i+1);have:=lR s (i+2);have:=lR s (i+3)
 unfold aJ;omega
theorem s6(s:ByteArray)(a b:Nat)(h:a+4<=b)(hb:b<=s.size):aJ (s.extract a b) 0=aJ s a:=by simp only[aJ];rw[pz s a b 0 (by omega) hb,pz s a b (0+1) (by omega) hb,pz s a b (0+2) (by omega) hb,pz s a b (0+3) (by omega) hb];rfl
theorem zB(s:ByteArray)(a b:Nat)(h:a+4<=b)(hb:b<=s.size):ft (s.extract a b) 0=ft s a:=by simp only[ft];rw[pz s a b 0 (by omega) hb,pz s a b (0+1) (by omega) hb,pz s a b (0+2) (by omega) hb,pz s a b (0+3) (by omega) hb];rfl
theorem below_drewN{w:World}(m:Nat):U w (w.drewN m):=by
 induction m with
 | zero=>exact bRq _ _
 | succ n ih=>exact ih.drew
theorem S8(s:ByteArray)(w:World)(hs:s.size=30):
  Calls prog 150 #[.string s] w fun e w'=>e=.returned (.agg #[.int .u8 (aS s 0),Z (aS s 1),Z (aJ s 2),Z (aS s 6),Z (aS s 7),Z (aJ s 8),Z (aJ s 12),Z (aJ s 16)])/\U w w':=by
 have jk:=Y hs;have g0:0<s.size:=by omega
 have g1:1<s.size:=by omega
 have g6:6<s.size:=by omega
 have g7:7<s.size:=by omega
 have h1:(1:Int)<s.size:=by omega
 have h6:(6:Int)<s.size:=by omega
 have h7:(7:Int)<s.size:=by omega
 have e6:6<=s.size:=by omega
 have as3:12<=s.size:=by omega
 have as4:16<=s.size:=by omega
 have Ka:20<=s.size:=by omega
 have f6:(6:Int)<=s.size:=by omega
 have f12:(12:Int)<=s.size:=by omega
 have f16:(16:Int)<=s.size:=by omega
 have f20:(20:Int)<=s.size:=by omega
 clear hs;go_enter func150,ntmps150;go_wp2;refine jO 28 (by kernel_rfl) (by kernel_rfl) ?_;simp only[List.take_succ_cons,List.take_zero,List.drop_succ_cons,List.drop_zero]
 repeat (first | go_big_quiet_step ((go_at_call 168;refine Calls.quiet_of (pA _ _ ?_);(simp;have:=jk.out;omega))) | quiet_step ((go_at_call 168;refine Calls.quiet_of (pA _ _ ?_);(simp;have:=jk.out;omega))))
 refine wpQuiet_nil ?_;intro _ hw';obtain⟨nq,hw''⟩:=hw';subst hw'';go_wp2;have Eqq:Value.agg #[.int .u8 (s[0]).toNat,Z (wrap64 (s[1]).toNat),Z (wrap64 (aJ (s.extract 2 6) 0)),Z (wrap64 (s[6]).toNat),Z (wrap64 (s[7]).toNat),Z (wrap64 (aJ (s.extract 8 12) 0)),Z (wrap64 (aJ (s.extract 12 16) 0)),Z (wrap64 (aJ (s.extract 16 20) 0))]
   = .agg #[.int .u8 (aS s 0),Z (aS s 1),Z (aJ s 2),Z (aS s 6),Z (aS s 7),Z (aJ s 8),Z (aJ s 12),Z (aJ s 16)]:=by
  have hs:=jk.out;rw[lu s 0 g0,lu s 1 g1,lu s 6 g6,lu s 7 g7,xA (aS s 1) (by have:=lR s 1;omega),xA (aS s 6) (by have:=lR s 6;omega),xA (aS s 7) (by have:=lR s 7;omega),
   s6 s 2 6 (by omega) (by omega),s6 s 8 12 (by omega) (by omega),s6 s 12 16 (by omega) (by omega),s6 s 16 20 (by omega) (by omega),xA (aJ s 2) (by have:=rP s 2;omega),xA (aJ s 8) (by have:=rP s 8;omega),xA (aJ s 12) (by have:=rP s 12;omega),xA (aJ s 16) (by have:=rP s 16;omega)]
 refine bodyPost_ret (v:=.agg #[.int .u8 (s[0]).toNat,Z (wrap64 (s[1]).toNat),Z (wrap64 (aJ (s.extract 2 6) 0)),Z (wrap64 (s[6]).toNat),Z (wrap64 (s[7]).toNat),Z (wrap64 (aJ (s.extract 8 12) 0)),Z (wrap64 (aJ (s.extract 12 16) 0)),Z (wrap64 (aJ (s.extract 16 20) 0))]) (by simp[results,results150,go_sem]) rfl ⟨?_,?_⟩
 .rw[Eqq]
 .iterate 8 refine Below.setCell (p:=(O w.heap.size _)) ?_ (E w.heap.size) _
  exact aj.trans ((below_drewN nq).mono (by simp))
theorem dN{w:World}(m:Nat):U w (w.drewN m):=⟨rfl,rfl,rfl,E _,fun _ _=>rfl⟩
structure iV (w:World) (T:TypeId) (v1 v6 v7:Value):Prop where
 c1:w.cell? (O 1 0)=some (.iface T v1)
 c6:w.cell? (O 7 0)=some (.iface T v6)
 c7:w.cell? (O 8 0)=some (.iface T v7)
theorem iV.later{w w':World}{T:TypeId}{v1 v6 v7:Value}(h:iV w T v1 v6 v7)(hb:U w w'):iV w' T v1 v6 v7 :=
 ⟨cell_later hb h.c1,cell_later hb h.c6,cell_later hb h.c7⟩
theorem SF(cap:Nat)(a:Option Addr)(w:World):Calls prog 250 #[.slice a 0 cap] w fun e w'=>e=.returned .nilIface/\w'=w:=by go_enter func250,ntmps250;go_wp2;refine wp_loop_rounds 1 ?_;rw[rounds_succ];go_wp2;go_ret;exact⟨rfl,rfl⟩
theorem aeE(n cap:Nat)(a:Option Addr)(T:TypeId)(v1 v6 v7:Value)(w:World)(h:iV w T v1 v6 v7)(hn:120<n):Calls prog 250 #[.slice a n cap] w fun e w'=>e=.returned (.iface T v7)/\w'=w:=by
 have hn':(120:Int)<n:=by omega
 have c7:=h.c7;go_enter func250,ntmps250;go_wp2;go_ret;exact⟨rfl,rfl⟩
theorem J8(b off cap n:Nat)(l:List Cv.af)(T:TypeId)(v1 v6 v7:Value)(w:World)(hn:Hid (l.length=n))(hn':n<=120)(hcap:n<=cap)(hl:Hid (fU w b off l))(he:Hid (iV w T v1 v6 v7)):
  Calls prog 250 #[.slice (some (O b off)) n cap] w fun e w'=>(Cv.BR l n/\e=.returned .nilIface \/
   ∃i B,i<n/\Cv.BR l i/\Cv.qj l i=false/\e=.returned (.iface 172 (Rw B))/\w'.cell? (O B 0)=some (Z (i:Nat))/\w'.cell? (O B 1)=some (if Cv.ok (Cv.nth l i)=true then .iface T v6 else .iface T v1))/\U w w':=by
 have hni:¬ (120:Int)<n:=by omega
 go_enter func250,ntmps250;go_wp2
 go_loopw [11] (fun i wr=>∃k:Nat,k<=n/\i=Z k/\Cv.BR l k/\U w wr) (fun i _=>n-(intOf i).toNat)
 case atStart=>exact⟨0,Nat.zero_le _,rfl,fun i hi=>absurd hi (Nat.not_lt_zero i),bRq _ _⟩
 case round =>
  obtain⟨k,hk,rfl,nx,hb⟩:=hrel;have HW:=Y nx;have HB:=Y hb;clear nx hb;by_cases hlt:k<n
  .have aT:(k:Int)<n:=by omega
   have asU:k<=cap:=by omega
   obtain⟨c0,c1,c2,c3,c4⟩:=(hl.later HB) k (by rw[hn.out];exact hlt);have HX:Hid (∃x,x=Cv.nth l k):=⟨_,rfl⟩;generalize hx:Cv.nth l k=x at *;have HX:=Y hx;clear hx
   go_wp2_with fail
   refine(aeF x _).mono ?_;rintro e w2 ⟨rfl,hb2⟩;have HB2:Hid (U w w2):=(HB.alloc HB.size _).trans (hb2.mono (by have:=HB.size;simp;omega));have d0:w2.cell? (O wr.heap.size 0)=some (Z x.id):=by rw[hb2.cell (p:=(O wr.heap.size 0)) (by simp)];simp
   clear hb2 c0 c1 c2 c3 c4;cases hok:Cv.ok x with
   | false =>
    have zz:=Y hok;clear hok;have e1:=(he.later HB2).c1;simp only[];go_wp2;go_ret;refine⟨.inr ⟨k,w2.heap.size,hlt,HW,?_,rfl,by simp,?_⟩,HB2.alloc HB2.size _⟩
    .unfold Cv.qj;rw[HX.out,zz.out];rfl
    .rw[HX.out,zz.out];simp
   | true =>
    have zz:=Y hok;clear hok;have hL:=Y ((hl.later HB2).take k);have hT:Hid ((l.take k).length=k):=by show _=_;rw[lKq,hn.out];omega
    simp only[];go_wp2;refine jO 5 (by kernel_rfl) (by kernel_rfl) ?_;simp only[List.take_succ_cons,List.take_zero,List.drop_succ_cons,List.drop_zero]
    repeat (first | go_big_quiet_step (fail) | quiet_step (fail))
    refine wpQuiet_nil ?_;intro _ hw';obtain⟨nq,hw''⟩:=hw';subst hw'';have av:Hid (U w (w2.drewN nq)):=HB2.trans ((dN nq).mono HB2.size);have hL3:=Y (hL.later (dN nq));clear hL;generalize w2.drewN nq=w3 at *
    go_wp2_with fail
    refine(aeG b off cap k x.id (l.take k) w3 hT (by omega) hL3).mono ?_;rintro e w4 ⟨rfl,hb4⟩;have bS:=Y (ar av hb4);clear hb4 hL3 d0;cases Fz:Cv.has (l.take k) x.id with
    | true =>
     have aeH:=Y Fz;clear Fz;have e6:=(he.later bS).c6;simp only[];go_wp2;go_ret;refine⟨.inr ⟨k,w4.heap.size,hlt,HW,?_,rfl,by simp,?_⟩,bS.alloc bS.size _⟩
     .unfold Cv.qj;rw[HX.out,zz.out,aeH.out];rfl
     .rw[HX.out,zz.out];simp
    | false =>
     have SH:Cv.BR l (k+1):=by
      intro i hi;by_cases e:i=k
      .rw[e];unfold Cv.qj;rw[HX.out,zz.out,Fz];rfl
      .exact HW i (by omega)
     have aeI:=Y SH;clear SH Fz;simp only[];go_wp2;exact⟨⟨k+1,by omega,by go_num,aeI,bS⟩,by simp[intOf];omega⟩
  .have aT:¬ (k:Int)<n:=by omega
   have ep:k=n:=by omega
   have nx:=HW.out;rw[ep]at nx;have aeJ:=Y nx;clear nx ep;go_wp2;go_ret;exact⟨.inl ⟨aeJ,rfl⟩,HB⟩
theorem aey(b off cap n:Nat)(l:List Cv.af)(T:TypeId)(v1 v6 v7:Value)(w:World)(hn:Hid (l.length=n))(hcap:n<=cap)(hl:Hid (fU w b off l))(he:Hid (iV w T v1 v6 v7))(mE:¬ Cv.gh l):
  Calls prog 250 #[.slice (some (O b off)) n cap] w fun e w'=>(∃Uqq x,e=.returned (.iface Uqq x))/\U w w':=by
 by_cases h:120<n
 .refine(aeE n cap _ T v1 v6 v7 w he h).mono ?_
  rintro e w' ⟨rfl,rfl⟩;exact⟨⟨_,_,rfl⟩,bRq _ _⟩
 .refine(J8 b off cap n l T v1 v6 v7 w hn (by omega) hcap hl he).mono ?_
  rintro e w' ⟨h1 | ⟨i,B,_,_,_,rfl,_⟩,hb⟩
  .exact absurd ⟨by rw[hn.out];omega,by rw[hn.out];exact h1.1⟩ mE
  .exact⟨⟨_,_,rfl⟩,hb⟩
theorem SG(b off cap n:Nat)(l:List Cv.af)(T:TypeId)(v1 v6 v7:Value)(w:World)(hn:Hid (l.length=n))(hcap:n<=cap)(hl:Hid (fU w b off l))(he:Hid (iV w T v1 v6 v7))(hok:Cv.gh l):
  Calls prog 250 #[.slice (some (O b off)) n cap] w fun e w'=>e=.returned .nilIface/\U w w':=by
 have vq:=hok.1;rw[hn.out]at vq;refine(J8 b off cap n l T v1 v6 v7 w hn vq hcap hl he).mono ?_;rintro e w' ⟨h1 | ⟨i,B,hi,_,hno,_⟩,hb⟩
 .exact⟨h1.2,hb⟩
 .rw[hok.2 i (by rw[hn.out];exact hi)]at hno
  cases hno
theorem SL(b off cap n:Nat)(l:List Cv.af)(T:TypeId)(v1 v6 v7:Value)(w:World)(hn:Hid (l.length=n))(hcap:n<=cap)(hl:Hid (fU w b off l))(he:Hid (iV w T v1 v6 v7))(hok:Hid (Cv.gh l)):
  Calls prog 315 #[.slice (some (O b off)) n cap] w fun e w'=>e=.returned (.slice (some (O b off)) n cap)/\U w w':=by
 go_enter func315,ntmps315
 go_wp2_with fail
 refine(SG b off cap n l T v1 v6 v7 w hn hcap hl he hok).mono ?_;rintro e w1 ⟨rfl,hb1⟩;have HB1:=Y hb1;clear hb1;simp only[];go_wp2;go_ret;exact⟨rfl,HB1⟩
theorem aeP(cap:Nat)(a:Option Addr)(w:World):Calls prog 315 #[.slice a 0 cap] w fun e w'=>e=.returned (.slice a 0 cap)/\w'=w:=by
 go_enter func315,ntmps315
 go_wp2_with fail
 refine(SF cap a w).mono ?_;rintro e w1 ⟨rfl,rfl⟩;simp only[];go_wp2;go_ret;exact⟨rfl,rfl⟩
theorem SN(cap:Nat)(a:Option Addr)(f:Value)(w:World):Calls prog 308 #[.slice a 0 cap,f] w fun e w'=>e=.returned (Z 0)/\w'=w:=by
 go_enter func308,ntmps308
 go_wp2_with fail
 refine(aeP cap a w).mono ?_;rintro e w1 ⟨rfl,rfl⟩;simp only[];go_wp2;refine wp_loop_rounds 1 ?_;rw[rounds_succ];go_wp2;go_ret;exact⟨rfl,rfl⟩
theorem aeQ(b off cap n B:Nat)(p:Int)(l:List Cv.af)(T:TypeId)(v1 v6 v7:Value)(w:World)(hn:Hid (l.length=n))(hcap:n<=cap)(hl:Hid (fU w b off l))(he:Hid (iV w T v1 v6 v7))(hok:Hid (Cv.gh l))(hc:w.cell? (O B 0)=some (Z p)):
  Calls prog 308 #[.slice (some (O b off)) n cap,.func (.func 309) #[] #[Rw B]] w fun e w'=>e=.returned (Z (Cv.dQ (Cv.iK p) l))/\U w w':=by
 have vq:=hok.1;rw[hn.out]at vq;have HR:Hid (∀k,0<=Cv.dQ (Cv.iK p) (l.take k)/\Cv.dQ (Cv.iK p) (l.take k)<=120000):=fun k=>by
  have:=Cv.nz (Cv.iK p) (l.take k) (hok.oks.take k)
  have h2:(l.take k).length<=120:=by rw[lKq,hn.out];omega
  omega
 go_enter func308,ntmps308
 go_wp2_with fail
 refine(SL b off cap n l T v1 v6 v7 w hn hcap hl he hok).mono ?_;rintro e w1 ⟨rfl,hb1⟩;have HB1:=Y hb1;clear hb1;simp only[];go_wp2
 go_loopw [5,11] (fun s i wr=>∃k:Nat,k<=n/\i=Z k/\s=Z (Cv.dQ (Cv.iK p) (l.take k))/\U w wr) (fun _ i _=>n-(intOf i).toNat)
 case atStart=>exact⟨0,Nat.zero_le _,rfl,rfl,HB1⟩
 case round =>
  obtain⟨k,hk,rfl,rfl,hb⟩:=hrel;have HB:=Y hb;clear hb;by_cases hlt:k<n
  .have aT:(k:Int)<n:=by omega
   obtain⟨c0,c1,c2,c3,c4⟩:=(hl.later HB) k (by rw[hn.out];exact hlt);have HS:=Y (Cv.J3 (Cv.iK p) (l:=l) (k:=k) (by rw[hn.out];exact hlt));obtain⟨r1,r2⟩:=HR.out k;have b_:=Y (HR (k+1));rw[HS.out]at b_;generalize Cv.dQ (Cv.iK p) (l.take k)=sk at *;generalize Cv.nth l k=x at *;have hcc:=fun W (h:U w W)=>aeR x B p W (cell_later h hc);have J9:=Y hcc;clear hcc;have vn:Hid (U w (wr.alloc (.cells #[Z x.id,Z x.ai,Z x.sd,Z x.pr,Z x.q] 197))):=HB.alloc HB.size _
   go_wp2_with fail
   refine(J9 _ vn).mono ?_;rintro e w2 ⟨rfl,hb2⟩;have HB2:Hid (U w w2):=ar vn hb2;have d4:w2.cell? (O wr.heap.size 4)=some (Z x.q):=by rw[hb2.cell (p:=(O wr.heap.size 4)) (by simp)];simp
   clear hb2 c0 c1 c2 c3 c4;cases hp:Cv.iK p x with
   | true =>
    have HS2:=Y (show Cv.dQ (Cv.iK p) (l.take (k+1))=sk+x.q by have:=HS.out;rw[hp]at this;simpa using this);have hr2:0<=sk+x.q/\sk+x.q<=120000:=by have:=b_.out;rw[hp]at this;simpa using this
    clear hp;obtain⟨r3,r4⟩:=hr2;simp only[];go_wp2;exact⟨⟨k+1,by omega,by go_num,by rw[HS2.out],HB2⟩,by simp[intOf];omega⟩
   | false =>
    have HS2:=Y (show Cv.dQ (Cv.iK p) (l.take (k+1))=sk by have:=HS.out;rw[hp]at this;simpa using this);clear hp;simp only[];go_wp2;exact⟨⟨k+1,by omega,by go_num,by rw[HS2.out],HB2⟩,by simp[intOf];omega⟩
  .have aT:¬ (k:Int)<n:=by omega
   have ep:l.take k=l:=by
    have:k=l.length:=by rw[hn.out];omega
    rw[this,List.take_length]
   have zA:=Y ep;clear ep;go_wp2;go_ret;exact⟨by rw[zA.out];rfl,HB⟩
theorem aeS(b off cap n B:Nat)(p:Int)(l:List Cv.af)(T:TypeId)(v1 v6 v7:Value)(w:World)(hn:Hid (l.length=n))(hcap:n<=cap)(hl:Hid (fU w b off l))(he:Hid (iV w T v1 v6 v7))(hok:Hid (Cv.gh l))(hc:w.cell? (O B 0)=some (Z p)):
  Calls prog 308 #[.slice (some (O b off)) n cap,.func (.func 310) #[] #[Rw B]] w fun e w'=>e=.returned (Z (Cv.dQ (Cv.sB p) l))/\U w w':=by
 have vq:=hok.1;rw[hn.out]at vq;have HR:Hid (∀k,0<=Cv.dQ (Cv.sB p) (l.take k)/\Cv.dQ (Cv.sB p) (l.take k)<=120000):=fun k=>by
  have:=Cv.nz (Cv.sB p) (l.take k) (hok.oks.take k)
  have h2:(l.take k).length<=120:=by rw[lKq,hn.out];omega
  omega
 go_enter func308,ntmps308
 go_wp2_with fail
 refine(SL b off cap n l T v1 v6 v7 w hn hcap hl he hok).mono ?_;rintro e w1 ⟨rfl,hb1⟩;have HB1:=Y hb1;clear hb1;simp only[];go_wp2
 go_loopw [5,11] (fun s i wr=>∃k:Nat,k<=n/\i=Z k/\s=Z (Cv.dQ (Cv.sB p) (l.take k))/\U w wr) (fun _ i _=>n-(intOf i).toNat)
 case atStart=>exact⟨0,Nat.zero_le _,rfl,rfl,HB1⟩
 case round =>
  obtain⟨k,hk,rfl,rfl,hb⟩:=hrel;have HB:=Y hb;clear hb;by_cases hlt:k<n
  .have aT:(k:Int)<n:=by omega
   obtain⟨c0,c1,c2,c3,c4⟩:=(hl.later HB) k (by rw[hn.out];exact hlt);have HS:=Y (Cv.J3 (Cv.sB p) (l:=l) (k:=k) (by rw[hn.out];exact hlt));obtain⟨r1,r2⟩:=HR.out k;have b_:=Y (HR (k+1));rw[HS.out]at b_;generalize Cv.dQ (Cv.sB p) (l.take k)=sk at *;generalize Cv.nth l k=x at *;have hcc:=fun W (h:U w W)=>aeT x B p W (cell_later h hc);have J9:=Y hcc;clear hcc;have vn:Hid (U w (wr.alloc (.cells #[Z x.id,Z x.ai,Z x.sd,Z x.pr,Z x.q] 197))):=HB.alloc HB.size _
   go_wp2_with fail
   refine(J9 _ vn).mono ?_;rintro e w2 ⟨rfl,hb2⟩;have HB2:Hid (U w w2):=ar vn hb2;have d4:w2.cell? (O wr.heap.size 4)=some (Z x.q):=by rw[hb2.cell (p:=(O wr.heap.size 4)) (by simp)];simp
   clear hb2 c0 c1 c2 c3 c4;cases hp:Cv.sB p x with
   | true =>
    have HS2:=Y (show Cv.dQ (Cv.sB p) (l.take (k+1))=sk+x.q by have:=HS.out;rw[hp]at this;simpa using this);have hr2:0<=sk+x.q/\sk+x.q<=120000:=by have:=b_.out;rw[hp]at this;simpa using this
    clear hp;obtain⟨r3,r4⟩:=hr2;simp only[];go_wp2;exact⟨⟨k+1,by omega,by go_num,by rw[HS2.out],HB2⟩,by simp[intOf];omega⟩
   | false =>
    have HS2:=Y (show Cv.dQ (Cv.sB p) (l.take (k+1))=sk by have:=HS.out;rw[hp]at this;simpa using this);clear hp;simp only[];go_wp2;exact⟨⟨k+1,by omega,by go_num,by rw[HS2.out],HB2⟩,by simp[intOf];omega⟩
  .have aT:¬ (k:Int)<n:=by omega
   have ep:l.take k=l:=by
    have:k=l.length:=by rw[hn.out];omega
    rw[this,List.take_length]
   have zA:=Y ep;clear ep;go_wp2;go_ret;exact⟨by rw[zA.out];rfl,HB⟩
def iJ(w:World)(v:Value)(l:List Cv.af):Prop :=
 (l=[]/\∃a cap,v=.slice a 0 cap)\/∃b off cap,v=.slice (some (O b off)) l.length cap/\l.length<=cap/\fU w b off l
theorem iJ.later{w w':World}{v:Value}{l:List Cv.af}(h:iJ w v l)(hb:U w w'):iJ w' v l:=by
 rcases h with h | ⟨b,off,cap,h1,h2,h3⟩
 .exact .inl h
 .exact .inr ⟨b,off,cap,h1,h2,h3.later hb⟩
theorem Cv.aex:Cv.gh []:=⟨by simp,fun i hi=>by simp at hi⟩
theorem aeU(b off cap n:Nat)(p r:Int)(w:World)(HC:Hid (∀W,W=w.alloc (.cells #[Z p] 3)->Calls prog 308 #[.slice (some (O b off)) n cap,.func (.func 309) #[] #[Rw w.heap.size]] W fun e w'=>e=.returned (Z r)/\U W w')):
  Calls prog 301 #[.slice (some (O b off)) n cap,Z p] w fun e w'=>e=.returned (Z r)/\U w w':=by
 go_enter func301,ntmps301
 go_wp2_with fail
 refine(HC _ rfl).mono ?_;rintro e w2 ⟨rfl,hb⟩;have HB:=Y hb;clear hb;simp only[];go_wp2;go_ret;exact⟨rfl,aj.trans (HB.mono (by simp))⟩
theorem aeV(cap:Nat)(a:Option Addr)(p:Int)(w:World):
  Calls prog 301 #[.slice a 0 cap,Z p] w fun e w'=>e=.returned (Z 0)/\U w w':=by
 go_enter func301,ntmps301
 go_wp2_with fail
 refine(SN cap a _ _).mono ?_;rintro e w2 ⟨rfl,rfl⟩;simp only[];go_wp2;go_ret;exact⟨rfl,aj⟩
theorem aeC(v:Value)(l:List Cv.af)(p:Int)(T:TypeId)(v1 v6 v7:Value)(w:World)(hv:iJ w v l)(he:Hid (iV w T v1 v6 v7))(hok:Cv.gh l):
  Calls prog 301 #[v,Z p] w fun e w'=>e=.returned (Z (Cv.ji l p))/\U w w':=by
 rcases hv with ⟨rfl,a,cap,rfl⟩ | ⟨b,off,cap,rfl,hcap,hl⟩
 .exact aeV cap a p w
 .refine aeU b off cap _ p _ w (fun W hW=>?_)
  subst hW;exact aeQ b off cap l.length w.heap.size p l T v1 v6 v7 _ rfl hcap (hl.later aj) (he.later aj) hok (by simp)
theorem aeW(b off cap n:Nat)(p r:Int)(w:World)(HC:Hid (∀W,W=w.alloc (.cells #[Z p] 3)->Calls prog 308 #[.slice (some (O b off)) n cap,.func (.func 310) #[] #[Rw w.heap.size]] W fun e w'=>e=.returned (Z r)/\U W w')):
  Calls prog 302 #[.slice (some (O b off)) n cap,Z p] w fun e w'=>e=.returned (Z r)/\U w w':=by
 go_enter func302,ntmps302
 go_wp2_with fail
 refine(HC _ rfl).mono ?_;rintro e w2 ⟨rfl,hb⟩;have HB:=Y hb;clear hb;simp only[];go_wp2;go_ret;exact⟨rfl,aj.trans (HB.mono (by simp))⟩
theorem aeX(cap:Nat)(a:Option Addr)(p:Int)(w:World):
  Calls prog 302 #[.slice a 0 cap,Z p] w fun e w'=>e=.returned (Z 0)/\U w w':=by
 go_enter func302,ntmps302
 go_wp2_with fail
 refine(SN cap a _ _).mono ?_;rintro e w2 ⟨rfl,rfl⟩;simp only[];go_wp2;go_ret;exact⟨rfl,aj⟩
theorem aeD(v:Value)(l:List Cv.af)(p:Int)(T:TypeId)(v1 v6 v7:Value)(w:World)(hv:iJ w v l)(he:Hid (iV w T v1 v6 v7))(hok:Cv.gh l):
  Calls prog 302 #[v,Z p] w fun e w'=>e=.returned (Z (Cv.jM l p))/\U w w':=by
 rcases hv with ⟨rfl,a,cap,rfl⟩ | ⟨b,off,cap,rfl,hcap,hl⟩
 .exact aeX cap a p w
 .refine aeW b off cap _ p _ w (fun W hW=>?_)
  subst hW;exact aeS b off cap l.length w.heap.size p l T v1 v6 v7 _ rfl hcap (hl.later aj) (he.later aj) hok (by simp)
theorem iJ.form{w:World}{v:Value}{l:List Cv.af}(h:iJ w v l):∃a n cap,v=.slice a n cap:=by
 rcases h with ⟨_,a,cap,rfl⟩ | ⟨b,off,cap,rfl,_⟩
 .exact⟨_,_,_,rfl⟩
 .exact⟨_,_,_,rfl⟩
theorem aez(a:Option Addr)(n cap:Nat)(p d s:Int)(w:World)(hd:Hid (Calls prog 301 #[.slice a n cap,Z p] w fun e w'=>e=.returned (Z d)/\U w w'))(hs:Hid (∀w1,U w w1->Calls prog 302 #[.slice a n cap,Z p] w1 fun e w'=>e=.returned (Z s)/\U w1 w')):
  Calls prog 286 #[.slice a n cap,Z p] w fun e w'=>e=.returned (Z (min d s))/\U w w':=by
 go_enter func286,ntmps286
 go_wp2_with fail
 refine hd.mono ?_;rintro e w1 ⟨rfl,hb1⟩;have HB1:=Y hb1;clear hb1;simp only[]
 go_wp2_with fail
 refine(hs _ HB1).mono ?_;rintro e w2 ⟨rfl,hb2⟩;have HB2:=Y (ar HB1 hb2);clear hb2;simp only[];go_wp2
 all_goals go_ret
 all_goals exact⟨xj (by omega),HB2⟩
theorem Cv.aeA(l:List Cv.af)(p:Int)(h:Cv.gh l):0<=Cv.ji l p/\Cv.ji l p<=120000:=by
 have:=Cv.nz (Cv.iK p) l h.oks
 have h2:=h.1;unfold Cv.ji;omega
theorem aeB(v:Value)(l:List Cv.af)(p:Int)(T:TypeId)(v1 v6 v7:Value)(w:World)(hv:iJ w v l)(he:Hid (iV w T v1 v6 v7))(hok:Cv.gh l):
  Calls prog 286 #[v,Z p] w fun e w'=>e=.returned (Z (Cv.fG l p))/\U w w':=by
 obtain⟨a,n,cap,rfl⟩:=hv.form;exact aez a n cap p _ _ w (aeC _ l p T v1 v6 v7 w hv he hok) (fun w1 hb=>aeD _ l p T v1 v6 v7 w1 (hv.later hb) (he.later hb) hok)
def eK(x:Cv.af):List Value:=[Z x.id,Z x.ai,Z x.sd,Z x.pr,Z x.q]
def flat(l:List Cv.af):List Value:=l.flatMap eK
theorem qi:∀l:List Cv.af,(flat l).length=l.length*5
 | []=>rfl
 | x::l=>by
  have:=qi l
  simp only[flat,List.flatMap_cons,List.length_append,List.length_cons]at this ⊢;rw[this,show (eK x).length=5 from rfl];omega
theorem SK:∀(l:List Cv.af) (i j:Nat),i<l.length->j<5->(flat l)[i*5+j]?=(eK (Cv.nth l i))[j]?
 | [],i,j,h,_=>absurd h (Nat.not_lt_zero i)
 | x::l,0,j,_,hj=>by
  show (eK x++flat l)[0*5+j]?=_;rw[Nat.zero_mul,Nat.zero_add,List.getElem?_append_left (by show j<5;exact hj)];rfl
 | x::l,i+1,j,h,hj=>by
  show (eK x++flat l)[(i+1)*5+j]?=_;rw[List.getElem?_append_right (by show 5<=_;omega),show (i+1)*5+j-(eK x).length=i*5+j by show _-5=_;omega,SK l i j (by simpa using h) hj];rfl
theorem RV(l:List Cv.af)(u:Value)(h:u∈flat l):u.oneCell'=true:=by obtain⟨x,_,hx⟩:=List.mem_flatMap.1 h;simp only[eK,List.mem_cons,List.not_mem_nil,or_false]at hx;rcases hx with rfl | rfl | rfl | rfl | rfl <;> rfl
theorem Bv{w:World}{b:Nat}{l:List Cv.af}(h:∀j u,(flat l)[j]?=some u->w.cell? (O b j)=some u):fU w b 0 l:=by intro i hi;have key:∀j u,j<5->(eK (Cv.nth l i))[j]?=some u->w.cell? ⟨b,i*5+j,none⟩=some u:=fun j u hj hu=>h _ u (by rw[SK l i j hi hj];exact hu);rw[Nat.zero_add];exact⟨key 0 _ (by decide) rfl,key 1 _ (by decide) rfl,key 2 _ (by decide) rfl,key 3 _ (by decide) rfl,key 4 _ (by decide) rfl⟩
theorem Fh:∃i z,prog.info? 197=some i/\i.zero=some z/\i.size=5/\i.bytes=40/\z.cells.size=5:=⟨_,_,rfl,rfl,rfl,rfl,rfl⟩
structure Only (w w':World) (a b:Option Nat):Prop where
 os:w'.os=w.os
 tape:w'.tape=w.tape
 output:w'.output=w.output
 size:w.heap.size<=w'.heap.size
 block:∀k,k<w.heap.size->some k≠a->some k≠b->w'.heap[k]?=w.heap[k]?
theorem Only.refl(w:World)(a b:Option Nat):Only w w a b:=⟨rfl,rfl,rfl,E _,fun _ _ _ _=>rfl⟩
theorem Only.of_below{w w':World}(h:U w w')(a b:Option Nat):Only w w' a b:=⟨h.os,h.tape,h.output,h.size,fun k hk _ _=>h.block k hk⟩
theorem Only.j9{w w':World}{r:Option Nat}(h:w.grownBy w' r)(a:Option Nat):Only w w' a r:=⟨h.os,h.tape,h.output,h.size,fun k hk _ h2=>h.block k hk h2⟩
theorem Only.trans{w w1 w2:World}{a b b1:Option Nat}(h:Only w w1 a b)(h1:Only w1 w2 a b1)(hb:∀k,b1=some k->b=some k\/w.heap.size<=k):Only w w2 a b :=
 ⟨h1.os.trans h.os,h1.tape.trans h.tape,h1.output.trans h.output,lTq h.size h1.size,fun k hk ha hk2=>by
  rw[h1.block k (Nat.lt_of_lt_of_le hk h.size) ha (fun e=>?_)]
  .exact h.block k hk ha hk2
  .rcases hb k e.symm with h3 | h3
   .exact hk2 h3.symm
   .omega⟩
theorem Only.below{w w':World}{a b:Option Nat}{n:Nat}(h:Only w w' a b)(hn:n<=w.heap.size)(ha:∀k,a=some k->n<=k)(hb:∀k,b=some k->n<=k):Below n w w' :=
 ⟨h.os,h.tape,h.output,h.size,fun k hk=>h.block k (by omega) (fun e=>by have:=ha k e.symm;omega) (fun e=>by have:=hb k e.symm;omega)⟩
theorem Only.setCell(w:World)(g o:Nat)(v:Value)(b:Option Nat):Only w (w.setCell (O g o) v) (some g) b :=
 ⟨rfl,rfl,rfl,by simp,fun k _ ha _=>Below.heap_setCell _ _ _ _ (fun e=>ha (by rw[e]))⟩
theorem Only.swap{w w':World}{a b:Option Nat}(h:Only w w' a b):Only w w' b a:=⟨h.os,h.tape,h.output,h.size,fun k hk h1 h2=>h.block k hk h2 h1⟩
theorem Only.setCells(w:World)(g:Nat):∀(vs:List Value) (o:Nat) (a:Option Nat),Only w (w.setCells g o vs) a (some g):=by
 intro vs
 induction vs generalizing w with
 | nil=>intro o a;exact Only.refl w _ _
 | cons v vs ih =>
  intro o a;exact(Only.setCell w g o v a).swap.trans (ih (w.setCell (O g o) v) (o+1) a) (fun k h=>.inl h)
structure dG (w:World) (base p:Nat) (v:Value) (l:List Cv.af):Prop where
 cell:w.heap[p]?=some (.cells #[v] 276 (0,0))
 lo:base<=p
 row:w.ownsRow base 197 5 v l.length (flat l)
theorem dG.ne{w:World}{base p:Nat}{v:Value}{l:List Cv.af}(h:dG w base p v l):v.ownBlock≠some p:=by
 intro e;rcases h.row.2 with ⟨e1,_⟩ | ⟨r,cap,cur,e1,_,hr,_⟩
 .rw[e1]at e;cases e
 .rw[e1]at e
  have:r=p:=by simpa [Value.ownBlock] using e
  rw[this,h.cell]at hr;cases hr
theorem dG.lt{w:World}{base p:Nat}{v:Value}{l:List Cv.af}(h:dG w base p v l):p<w.heap.size:=lBq h.cell
theorem dG.uY{w:World}{base p:Nat}{v:Value}{l:List Cv.af}(h:dG w base p v l):∀k,v.ownBlock=some k->base<=k/\k<w.heap.size:=h.row.lt
theorem adQ{w w':World}{a b:Option Nat}{base:Nat}{e:TypeId}{s:Nat}{v:Value}{n:Nat}{xs:List Value}(hr:w.ownsRow base e s v n xs)(h:Only w w' a b)(ha:∀k,v.ownBlock=some k->some k≠a)(hb:∀k,v.ownBlock=some k->some k≠b):w'.ownsRow base e s v n xs:=by
 refine⟨hr.1,?_⟩;rcases hr.2 with hn | ⟨g,cap,cur,rfl,hg,er,rest⟩
 .exact .inl hn
 .exact .inr ⟨g,cap,cur,rfl,hg,by rw[h.block g (lBq er) (ha g rfl) (hb g rfl)];exact er,rest⟩
theorem dG.only{w w':World}{a b:Option Nat}{base p:Nat}{v:Value}{l:List Cv.af}(h:dG w base p v l)(ho:Only w w' a b)(h1:some p≠a)(h2:some p≠b)(h3:∀k,v.ownBlock=some k->some k≠a)(h4:∀k,v.ownBlock=some k->some k≠b):dG w' base p v l :=
 ⟨by rw[ho.block p h.lt h1 h2];exact h.cell,h.lo,adQ h.row ho h3 h4⟩
theorem dG.later{w w':World}{base p:Nat}{v:Value}{l:List Cv.af}(h:dG w base p v l)(hb:U w w'):dG w' base p v l :=
 h.only (Only.of_below hb none none) (by simp) (by simp) (fun _ _=>by simp) (fun _ _=>by simp)
theorem dG.form{w:World}{base p:Nat}{v:Value}{l:List Cv.af}(h:dG w base p v l):(v=.slice none 0 0/\l=[])\/∃g cap,v=.slice (some (O g 0)) l.length cap/\l.length<=cap/\base<=g/\fU w g 0 l:=by
 rcases h.row.2 with ⟨e,e2⟩ | ⟨g,cap,cur,e,hg,er,hle,_,_,_⟩
 .exact .inl ⟨e,List.eq_nil_of_length_eq_zero e2⟩
 .refine .inr ⟨g,cap,e,hle,hg,Bv fun j u hu=>?_⟩
  have:=World.ownsRow.cells h.row (g:=g) (by rw[e];rfl) j u hu
  have hp:(⟨g,0,none⟩:Addr).add j=(O g j):=by unfold Addr.add;split <;> simp_all
  rwa [hp]at this
structure Step (w w':World) (p:Nat) (v v':Value):Prop where
 only:Only w w' (some p) v.ownBlock
 new:∀k,v'.ownBlock=some k->v.ownBlock=some k\/w.heap.size<=k
theorem Step.of_below{w w':World}(h:U w w')(p:Nat)(v:Value):Step w w' p v v:=⟨Only.of_below h _ _,fun _ h=>.inl h⟩
theorem Step.trans{w w1 w2:World}{p:Nat}{v v1 v2:Value}(h:Step w w1 p v v1)(h1:Step w1 w2 p v1 v2):Step w w2 p v v2 :=
 ⟨h.only.trans h1.only h.new,fun k hk=>by
  rcases h1.new k hk with h3 | h3
  .exact h.new k h3
  .exact .inr (lTq h.only.size h3)⟩
theorem Step.below{w w':World}{base p:Nat}{v v':Value}{l:List Cv.af}(h:Step w w' p v v')(hb:dG w base p v l)(n:Nat)(hn:n<=base):Below n w w' :=
 h.only.below (by have:=hb.lo;have:=hb.lt;omega) (fun k e=>by cases e;have:=hb.lo;omega) (fun k e=>by have:=(hb.uY k e).1;omega)
theorem R1{e:TypeId}{fz:Nat×Nat}(g:Nat):∀(vs:List Value) (o:Nat) (w:World) (cur:Array Value),w.heap[g]?=some (.cells cur e fz)->o+vs.length<=cur.size ->
  ∃cur',(w.setCells g o vs).heap[g]?=some (.cells cur' e fz)/\cur'.size=cur.size/\cur'.toList=cur.toList.take o++vs++cur.toList.drop (o+vs.length)
 | [],o,w,cur,h,hs=>⟨cur,h,rfl,by simp⟩
 | v::vs,o,w,cur,h,hs=>by
  have hlt:=lBq h;have h':w.heap[g]=.cells cur e fz:=by simpa [Array.getElem?_eq_getElem hlt] using h
  have h1:(w.setCell (O g o) v).heap[g]?=some (.cells (cur.setIfInBounds o v) e fz):=by show (w.heap.modify g _)[g]?=_;rw[Array.getElem?_eq_getElem (by simpa using hlt),Array.getElem_modify_self,h'];rfl
  simp only[List.length_cons]at hs;obtain⟨cur',a1,a2,a3⟩:=R1 g vs (o+1) _ _ h1 (by simp;omega);refine⟨cur',a1,by rw[a2];simp,?_⟩;rw[a3];simp only[List.length_cons,Array.toList_setIfInBounds];have ho:o<cur.toList.length:=by simp;omega
  rw[List.take_succ_eq_append_getElem (by simpa using ho),List.take_set_of_le (E o),List.getElem_set_self,List.drop_set_of_lt (by omega),show o+1+vs.length=o+(vs.length+1) by omega];simp
theorem JF{w:World}{base:Nat}{e:TypeId}{s g n cap:Nat}{xs:List Value}(h:w.ownsRow base e s (.slice (some (O g 0)) n cap) n xs)(o:Nat)(vs:List Value)(m:Nat)(hm:m<=cap)(hv:o+vs.length<=n*s)(ys:List Value)(hy:ys.length=m*s)(hmn:m<=n)(he:(xs.take o++vs++xs.drop (o+vs.length)).take (m*s)=ys):
  (w.setCells g o vs).ownsRow base e s (.slice (some (O g 0)) m cap) m ys:=by
 rcases h.2 with ⟨e1,_⟩ | ⟨g',cap',cur,e1,hg,er,h1,h2,h3,h4⟩
 .cases e1
 .obtain⟨rfl,rfl⟩:g=g'/\cap=cap':=by simpa using e1
  have hle:n*s<=cur.size:=by rw[h3];exact Nat.mul_le_mul_right _ h1
  obtain⟨cur',a1,a2,a3⟩:=R1 g vs o w cur er (by omega);refine⟨hy,.inr ⟨g,cap,cur',rfl,hg,a1,hm,h2,by rw[a2,h3],?_⟩⟩;have BG:m*s<=n*s:=Nat.mul_le_mul_right _ hmn;rw[a3,<- he,<- h4];have hx:cur.toList=cur.toList.take (n*s)++cur.toList.drop (n*s):=(List.take_append_drop _ _).symm;have hl:(cur.toList.take (n*s)).length=n*s:=by rw[lKq];simp;omega
  generalize cur.toList.take (n*s)=A at *;generalize cur.toList.drop (n*s)=C at *;have e1:(A++C).take o=A.take o:=List.take_append_of_le_length (by omega);have e2:(A++C).drop (o+vs.length)=A.drop (o+vs.length)++C:=List.drop_append_of_le_length (by omega);rw[hx,e1,e2,<- aAq];exact List.take_append_of_le_length (by simp only[List.length_append,List.length_take,List.length_drop];omega)
namespace Bk
open Cv
def xt(l:List af)(id:Int):Int:=if has l id=true then (pos l id:Int) else -1
theorem Bp{l:List af}{id:Int}(h:has l id=false):xt l id = -1:=by unfold xt;rw[h];rfl
theorem Bq{l:List af}{id:Int}(h:has l id=true):xt l id=(pos l id:Nat):=by unfold xt;rw[if_pos h]
theorem adM{l:List af}{id:Int}{k:Nat}(hk:k<l.length)(hn:has (l.take k) id=false)(hx:(nth l k).id=id):xt l id=(k:Nat):=by
 have h1:has l id=true:=List.any_eq_true.2 ⟨nth l k,oo hk,by simpa using hx⟩;rw[Bq h1];have h2:pos l id=k:=by
  unfold pos;rw[List.findIdx_eq hk];refine⟨by rw[<- vg hk];simpa using hx,fun j hj=>?_⟩
  have:=List.any_eq_false.1 hn l[j] (by rw[List.mem_take_iff_getElem];exact⟨j,by omega,rfl⟩)
  simpa using this
 rw[h2]
theorem JE{l:List af}{id:Int}(h:has l id=true):pos l id<l.length:=sW.1 h
end Bk
theorem adN(x:Cv.af)(B:Nat)(id:Int)(w:World)(hc:w.cell? (O B 0)=some (Z id)):
  Calls prog 266 #[cm x,Rw B] w fun e w'=>e=.returned (.bool (x.id==id))/\U w w':=by
 have hB:B<w.heap.size:=bCq _ _ hc;have hne:B≠w.heap.size:=by omega
 show Calls prog 266 #[.agg #[Z x.id,Z x.ai,Z x.sd,Z x.pr,Z x.q],Rw B] w _;go_enter func266,ntmps266;go_wp2
 all_goals go_ret
 all_goals
  refine⟨jg ?_,aj⟩
  first | rfl | simp_all
theorem adO(b off cap B:Nat)(id:Int)(l:List Cv.af)(w:World)(hn':l.length<=1000)(hl:Hid (fU w b off l))(hc:w.cell? (O B 0)=some (Z id)):
  Calls prog 265 #[.slice (some (O b off)) l.length cap,.func (.func 266) #[] #[Rw B]] w fun e w'=>e=.returned (Z (Bk.xt l id))/\U w w':=by
 generalize hn:l.length=n at *;have Hn:=Y hn;clear hn;go_enter func265,ntmps265;go_wp2
 go_loopw [8] (fun i wr=>∃k:Nat,k<=n/\i=Z k/\Cv.has (l.take k) id=false/\U w wr) (fun i _=>n-(intOf i).toNat)
 case atStart=>exact⟨0,Nat.zero_le _,rfl,rfl,bRq _ _⟩
 case round =>
  obtain⟨k,hk,rfl,hno,hb⟩:=hrel;have HN:=Y hno;have HB:=Y hb;clear hno hb;by_cases hlt:k<n
  .have aT:(k:Int)<n:=by omega
   obtain⟨c0,c1,c2,c3,c4⟩:=(hl.later HB) k (by rw[Hn.out];exact hlt);have hcB:=cell_later HB hc;have HC:=Y (adN (Cv.nth l k) B id wr hcB);have HT:=Y (Cv.take_succ (l:=l) (i:=k) (by rw[Hn.out];exact hlt));obtain⟨x,sX⟩:=aG (Cv.nth l k);rw[sX]at HC HT c0 c1 c2 c3 c4;have HX:=Y sX;clear sX
   go_wp2_with fail
   refine HC.mono ?_;rintro e w2 ⟨rfl,hb2⟩;have HB2:=Y (ar HB hb2);clear hb2 c0 c1 c2 c3 c4 hcB;by_cases hx:x.id=id
   .have j7:(x.id==id)=true:=by simpa using hx
    have Hx:=Y hx;clear hx;rw[j7];simp only[];go_wp2;go_ret;refine⟨?_,HB2⟩;rw[Bk.adM (by rw[Hn.out];exact hlt) HN.out (by rw[HX.out];exact Hx.out)];rfl
   .have j7:(x.id==id)=false:=by simpa using hx
    have BF:Cv.has (l.take (k+1)) id=false:=by have hh:=HN.out;rw[HT.out];unfold Cv.has at hh ⊢;rw[List.any_append,hh];simp[hx]
    have ql:=Y BF;clear hx BF;rw[j7];simp only[];go_wp2;exact⟨⟨k+1,by omega,by go_num,ql,HB2⟩,by simp[intOf];omega⟩
  .have aT:¬ (k:Int)<n:=by omega
   have ep:k=l.length:=by rw[Hn.out];omega
   have hno:=HN.out;rw[ep,List.take_length]at hno;have ql:=Y hno;clear hno ep;go_wp2;go_ret;exact⟨by rw[Bk.Bp ql.out];rfl,HB⟩
theorem E_(p base:Nat)(v:Value)(id:Int)(l:List Cv.af)(w:World)(hb:Hid (dG w base p v l))(hn:Hid (l.length<=60)):
  Calls prog 224 #[Rw p,Z id] w fun e w'=>e=.returned (Z (Bk.xt l id))/\U w w':=by
 have hcell:(w.alloc (.cells #[Z id] 3)).cell? (O p 0)=some v:=cell_later aj (cell_of_one hb.cell);rcases hb.form with ⟨rfl,hl⟩ | ⟨g,cap,rfl,hle,_,hl⟩
 .have HL:=Y hl
  clear hl;go_enter func224,ntmps224
  go_wp2_with fail
  refine(adP 0 none _ _).mono ?_;rintro e w2 ⟨rfl,rfl⟩;simp only[];go_wp2;go_ret;exact⟨by rw[HL.out];rfl,aj⟩
 .have HC:=Y (adO g 0 cap w.heap.size id l (w.alloc (.cells #[Z id] 3)) (by have:=hn.out;omega) (hl.later aj) (by simp))
  clear hl hle;go_enter func224,ntmps224
  go_wp2_with fail
  refine HC.mono ?_;rintro e w2 ⟨rfl,hb2⟩;have HB:=Y hb2;clear hb2;simp only[];go_wp2;go_ret;exact⟨rfl,aj.trans (HB.mono (by simp))⟩
theorem JM(w:World):Calls prog 162 #[] w fun e w'=>e=.returned (Rw w.heap.size)/\w'=w.alloc (.cells #[.slice none 0 0] 276):=by go_enter func162,ntmps162;go_wp2;go_ret;exact⟨rfl,rfl⟩
theorem JH(v:Value)(l:List Cv.af)(T:TypeId)(v1 v6 v7:Value)(w:World)(hv:iJ w v l)(he:Hid (iV w T v1 v6 v7))(hok:Cv.gh l):
  Calls prog 250 #[v] w fun e w'=>e=.returned .nilIface/\U w w':=by
 rcases hv with ⟨rfl,a,cap,rfl⟩ | ⟨b,off,cap,rfl,hcap,hl⟩
 .refine(SF cap a w).mono ?_
  rintro e w' ⟨rfl,rfl⟩;exact⟨rfl,bRq _ _⟩
 .exact SG b off cap _ l T v1 v6 v7 w rfl hcap hl he hok
theorem adD(v:Value)(l:List Cv.af)(T:TypeId)(v1 v6 v7:Value)(w:World)(hv:iJ w v l)(he:Hid (iV w T v1 v6 v7))(mE:¬ Cv.gh l):
  Calls prog 250 #[v] w fun e w'=>(∃Uqq x,e=.returned (.iface Uqq x))/\U w w':=by
 rcases hv with ⟨rfl,a,cap,rfl⟩ | ⟨b,off,cap,rfl,hcap,hl⟩
 .exact absurd Cv.aex mE
 .exact aey b off cap _ l T v1 v6 v7 w rfl hcap hl he mE
theorem adu(a b:Int)(w:World)(h1:-1000000<=a)(h2:a<=1000000)(h3:-1000000<=b)(h4:b<=1000000):Calls prog 253 #[Z a,Z b] w fun e w'=>e=.returned (Z (Cv.size (a-b)))/\w'=w:=by
 go_enter func253,ntmps253;go_wp2
 all_goals go_ret
 all_goals exact⟨xj (by unfold Cv.size;omega),rfl⟩
theorem RA(n:Int)(w:World):Calls prog 285 #[Z n] w fun e w'=>e=.returned (.bool (ah.aK n 1 1000))/\w'=w:=by
 go_enter func285,ntmps285
 go_wp2_with (go_at_call 160;refine(ib _ _ _ _).mono ?_;rintro e w' ⟨rfl,rfl⟩)
 go_ret;exact⟨rfl,rfl⟩
structure og (w:World) (T:TypeId) (v1:Value):Prop where
 c1:w.cell? (O 1 0)=some (.iface T v1)
theorem og.later{w w':World}{T:TypeId}{v1:Value}(h:og w T v1)(hb:U w w'):og w' T v1:=⟨cell_later hb h.c1⟩
def eo(r l:Int):Value:=.agg #[Z r,Z l]
def mB(T:TypeId)(v:Value)(b:Bool):Value:=if b=true then .nilIface else .iface T v
theorem adr(r l:Int)(T:TypeId)(v1:Value)(w:World)(he:Hid (og w T v1)):
  Calls prog 284 #[eo r l] w fun e w'=>e=.returned (mB T v1 (bm.kC r l))/\U w w':=by
 show Calls prog 284 #[.agg #[Z r,Z l]] w _;have hb0:U w (w.alloc (.cells #[Z r,Z l] 192)):=aj;have e1:=(he.later hb0).c1;have HB:=Y hb0;clear hb0;go_enter func284,ntmps284;cases h1:ah.aK r 1 1000 <;> cases h2:ah.aK l 0 1000
 all_goals
  go_wp2_with (first | (go_at_call 285;refine(RA _ _).mono ?_;rintro e w' ⟨rfl,rfl⟩;rw[h1]) | (go_at_call 160;refine(ib _ _ _ _).mono ?_;rintro e w' ⟨rfl,rfl⟩;rw[h2]))
  all_goals go_ret
  all_goals exact⟨by simp[mB,bm.kC,h1,h2],HB⟩
theorem Rz(r l:Int)(T:TypeId)(v1:Value)(w:World)(he:Hid (og w T v1)):
  Calls prog 159 #[eo r l] w fun e w'=>e=.returned (mB T v1 (bm.jK r l))/\U w w':=by
 show Calls prog 159 #[.agg #[Z r,Z l]] w _;have hb0:U w (w.alloc (.cells #[Z r,Z l] 43)):=aj;have e1:=(he.later hb0).c1;have HB:=Y hb0;clear hb0;go_enter func159,ntmps159;cases h1:ah.aK r 0 100 <;> cases h2:ah.aK l 1 1000
 all_goals
  go_wp2_with (go_at_call 160;refine(ib _ _ _ _).mono ?_;rintro e w' ⟨rfl,rfl⟩;first | rw[h1] | rw[h2])
  all_goals go_ret
  all_goals exact⟨by simp[mB,bm.jK,h1,h2],HB⟩
theorem adt(wd h r p:Int)(w:World)(h1:1<=r)(h2:r<=1000)(h3:0<=wd)(h4:wd<=100)(h5:1<=p)(h6:p<=1000):
  Calls prog 257 #[eo wd h,Z r,Z p] w fun e w'=>e=.returned (.bool (bm.xg wd r p))/\U w w':=by
 show Calls prog 257 #[.agg #[Z wd,Z h],Z r,Z p] w _;have HB:Hid (U w (w.alloc (.cells #[Z wd,Z h] 43))):=aj;have hp:=adq h1 h2 h3 h4;have w1:IntKind.i64.wrap (r*wd)=r*wd:=IntWalk.i64_in _ (by omega);have hs:0<=Cv.size (p-r)/\Cv.size (p-r)<=1000:=by unfold Cv.size;omega
 have w2:IntKind.i64.wrap (Cv.size (p-r)*100)=Cv.size (p-r)*100:=IntWalk.i64_in _ (by omega);have n1:¬ wd < -1:=by omega
 have n2:¬ 100000<wd:=by omega
 go_enter func257,ntmps257
 go_wp2_with (go_at_call 253;refine(adu _ _ _ (by omega) (by omega) (by omega) (by omega)).mono ?_;rintro e w' ⟨rfl,rfl⟩)
 all_goals go_ret
 all_goals first | exact⟨rfl,HB⟩ | exact⟨jg (by simp[bm.xg]),HB⟩
theorem Ry(r l wd h p v:Int)(T:TypeId)(v1:Value)(w:World)(he:Hid (og w T v1)):
  Calls prog 255 #[eo r l,eo wd h,Z p,Z v] w fun e w'=>e=.returned (mB T v1 (bm.kC r l&&(bm.jK wd h&&bm.od p v)))/\U w w':=by
 show Calls prog 255 #[.agg #[Z r,Z l],.agg #[Z wd,Z h],Z p,Z v] w _;obtain⟨W,gN⟩:=aG ((w.alloc (.cells #[Z r,Z l] 192)).alloc (.cells #[Z wd,Z h] 43));have hb1:U w (w.alloc (.cells #[Z r,Z l] 192)):=aj;have hb2:U w W:=by rw[<- gN];exact hb1.alloc hb1.size _
 have nt:W.heap[w.heap.size+1]?=some (.cells #[Z wd,Z h] 43 (0,0)):=by
  rw[<- gN]
  have:=hNq (w.alloc (.cells #[Z r,Z l] 192)) (.cells #[Z wd,Z h] 43)
  rw[show (w.alloc (.cells #[Z r,Z l] 192)).heap.size=w.heap.size+1 by simp]at this;exact this
 have kD:=Y nt;have fR:=Y hb2;have HC:=Y (adr r l T v1 W (he.later hb2));unfold eo at HC;have mC:=Y gN;clear hb1 hb2 nt gN;go_enter func255,ntmps255
 go_wp2_with fail
 rw[mC.out];refine HC.mono ?_;rintro e w2 ⟨rfl,hb2⟩;have HB:Hid (U w w2):=ar fR hb2;have hY:w2.heap[w.heap.size+1]?=some (.cells #[Z wd,Z h] 43 (0,0)):=by rw[hb2.block _ (Array.getElem?_eq_some_iff.1 kD.out).1];exact kD
 have y0:=ag hY 0 rfl;have y1:=ag hY 1 rfl;clear hb2 hY;cases hb:bm.kC r l with
 | false =>
  have Hb:=Y hb;clear hb;simp only[mB,if_neg Bool.false_ne_true];go_wp2;go_ret;exact⟨by rw[Hb.out];rfl,HB⟩
 | true =>
  have Hb:=Y hb;clear hb;have HC:=Y (Rz wd h T v1 w2 (he.later HB));unfold eo at HC;simp only[mB,if_pos]
  go_wp2_with fail
  refine HC.mono ?_;rintro e w3 ⟨rfl,hb3⟩;have av:Hid (U w w3):=ar HB hb3;clear hb3 y0 y1;cases hr:bm.jK wd h with
  | false =>
   have xh:=Y hr;clear hr;simp only[mB,if_neg Bool.false_ne_true];go_wp2;go_ret;exact⟨by rw[Hb.out,xh.out];rfl,av⟩
  | true =>
   have xh:=Y hr;clear hr;have e1:=(he.later av).c1;simp only[mB,if_pos];by_cases hv:v<0
   .have jL:decide (v<0)=true:=by simpa using hv
    go_wp2_with fail
    all_goals go_ret
    all_goals exact⟨by rw[Hb.out,xh.out];simp[mB,bm.od,jL],av⟩
   .have jL:decide (v<0)=false:=by simpa using hv
    by_cases hp:0<v
    .have JD:decide (0<v)=true:=by simpa using hp
     cases hw:ah.aK p 1 1000
     all_goals
      go_wp2_with (go_at_call 285;refine(RA _ _).mono ?_;rintro e w' ⟨rfl,rfl⟩;rw[hw])
      all_goals go_ret
      all_goals exact⟨by rw[Hb.out,xh.out];simp[mB,bm.od,jL,JD,hw],av⟩
    .have JD:decide (0<v)=false:=by simpa using hp
     go_wp2_with fail
     all_goals go_ret
     all_goals exact⟨by rw[Hb.out,xh.out];simp[mB,bm.od,jL,JD],av⟩
theorem ads(r l p:Int)(t:Bool)(w:World)(h1:0<l)(h2:l<=1000):
  Calls prog 256 #[eo r l,Z p,.bool t] w fun e w'=>e=.returned (eo (if l=1/\t=true then p else r) (l-1))/\U w w':=by
 show Calls prog 256 #[.agg #[Z r,Z l],Z p,.bool t] w _;have wl:IntKind.i64.wrap (l-1)=l-1:=IntWalk.i64_in _ (by omega);have HA:Hid (∀x y,U w ((w.alloc x).alloc y)):=fun x y=>((bRq _ _).alloc (E _) x).alloc (by simp) y;by_cases hl:l=1
 .subst hl
  cases t
  .go_enter func256,ntmps256
   go_wp2;exact bodyPost_ret (v:=eo r 0) (by simp[results,results256,go_sem,eo]) rfl ⟨rfl,HA _ _⟩
  .go_enter func256,ntmps256
   go_wp2;exact bodyPost_ret (v:=eo p 0) (by simp[results,results256,go_sem,eo]) rfl ⟨rfl,HA _ _⟩
 .have hl':¬ l-1=0:=by omega
  go_enter func256,ntmps256;go_wp2;exact bodyPost_ret (v:=eo r (l-1)) (by simp[results,results256,go_sem,eo]) rfl ⟨rfl,HA _ _⟩
def qf(r l wd h p v:Int):Value:=.tuple #[eo (bm.pu r l wd p v) (bm.px r l wd h p v),.bool (bm.py r l wd p v),.nilIface]
theorem asF(r l wd h p v:Int)(T:TypeId)(v1:Value)(w:World)(he:Hid (og w T v1))(hk:(bm.kC r l&&(bm.jK wd h&&bm.od p v))=false):
  Calls prog 221 #[eo r l,eo wd h,Z p,Z v] w fun e w'=>e=.returned (.tuple #[eo 0 0,.bool false,.iface T v1])/\U w w':=by
 obtain⟨W,gN⟩:=aG (((w.alloc (.cells #[Z r,Z l] 192)).alloc (.cells #[Z wd,Z h] 43)).alloc (.cells #[Z 0,Z 0] 192));have hb2:U w W:=by rw[<- gN];exact(aj.alloc (by simp) _).alloc (by simp;omega) _
 have nt:W.heap[w.heap.size+1+1]?=some (.cells #[Z 0,Z 0] 192 (0,0)):=by
  rw[<- gN]
  have:=hNq ((w.alloc (.cells #[Z r,Z l] 192)).alloc (.cells #[Z wd,Z h] 43)) (.cells #[Z 0,Z 0] 192)
  rw[show ((w.alloc (.cells #[Z r,Z l] 192)).alloc (.cells #[Z wd,Z h] 43)).heap.size=w.heap.size+1+1 by simp]at this;exact this
 have HC:=Y (Ry r l wd h p v T v1 W (he.later hb2));rw[hk]at HC;unfold eo at HC ⊢;have kD:=Y nt;have fR:=Y hb2;have mC:=Y gN;clear hb2 nt gN hk;go_enter func221,ntmps221
 go_wp2_with fail
 rw[mC.out];refine HC.mono ?_;rintro e w2 ⟨rfl,hb2⟩;have HB:Hid (U w w2):=ar fR hb2;have hY:w2.heap[w.heap.size+1+1]?=some (.cells #[Z 0,Z 0] 192 (0,0)):=by rw[hb2.block _ (Array.getElem?_eq_some_iff.1 kD.out).1];exact kD
 have y0:=ag hY 0 rfl;have y1:=ag hY 1 rfl;have z0:=aC hY 0;have dw:=aC hY 1;clear hb2 hY;simp only[mB,if_neg Bool.false_ne_true];go_wp2;exact bodyPost_ret (v:=.tuple #[.agg #[Z 0,Z 0],.bool false,.iface T v1]) (by simp[results,results221,go_sem,y0,y1]) rfl ⟨rfl,(HB.setCell (by simp;omega) _).setCell (by simp;omega) _⟩
theorem RB(r l wd h p v:Int)(T:TypeId)(v1:Value)(w:World)(he:Hid (og w T v1))(hk:(bm.kC r l&&(bm.jK wd h&&bm.od p v))=true):
  Calls prog 221 #[eo r l,eo wd h,Z p,Z v] w fun e w'=>e=.returned (qf r l wd h p v)/\U w w':=by
 obtain⟨W,gN⟩:=aG (((w.alloc (.cells #[Z r,Z l] 192)).alloc (.cells #[Z wd,Z h] 43)).alloc (.cells #[Z 0,Z 0] 192));have hb2:U w W:=by rw[<- gN];exact(aj.alloc (by simp) _).alloc (by simp;omega) _
 have qg:W.heap[w.heap.size]?=some (.cells #[Z r,Z l] 192 (0,0)):=by rw[<- gN];exact(Below.heap_alloc _ _ _ (by simp;omega)).trans ((Below.heap_alloc _ _ _ (by simp)).trans (hNq _ _))
 have RD:W.heap[w.heap.size+1]?=some (.cells #[Z wd,Z h] 43 (0,0)):=by
  rw[<- gN];refine(Below.heap_alloc _ _ _ (by simp)).trans ?_
  have:=hNq (w.alloc (.cells #[Z r,Z l] 192)) (.cells #[Z wd,Z h] 43)
  rw[show (w.alloc (.cells #[Z r,Z l] 192)).heap.size=w.heap.size+1 by simp]at this;exact this
 have nt:W.heap[w.heap.size+1+1]?=some (.cells #[Z 0,Z 0] 192 (0,0)):=by
  rw[<- gN]
  have:=hNq ((w.alloc (.cells #[Z r,Z l] 192)).alloc (.cells #[Z wd,Z h] 43)) (.cells #[Z 0,Z 0] 192)
  rw[show ((w.alloc (.cells #[Z r,Z l] 192)).alloc (.cells #[Z wd,Z h] 43)).heap.size=w.heap.size+1+1 by simp]at this;exact this
 have HC:=Y (Ry r l wd h p v T v1 W (he.later hb2));rw[hk]at HC;have hk':((1<=r/\r<=1000)/\0<=l/\l<=1000)/\((0<=wd/\wd<=100)/\1<=h/\h<=1000)/\0<=v/\(v<=0\/1<=p/\p<=1000):=by simpa [bm.kC,bm.jK,bm.od,ah.aK] using hk
 obtain⟨⟨⟨r1,r2⟩,l1,l2⟩,⟨⟨zn,wd2⟩,h1,h2⟩,asG,asH⟩:=hk';unfold eo at HC ⊢;have HX0:=Y qg;have RE:=Y RD;have kD:=Y nt;have fR:=Y hb2;have mC:=Y gN;clear hb2 qg RD nt gN hk;go_enter func221,ntmps221
 go_wp2_with fail
 rw[mC.out];refine HC.mono ?_;rintro e w2 ⟨rfl,hb2⟩;have HB:Hid (U w w2):=ar fR hb2;have hX:w2.heap[w.heap.size]?=some (.cells #[Z r,Z l] 192 (0,0)):=by rw[hb2.block _ (Array.getElem?_eq_some_iff.1 HX0.out).1];exact HX0
 have hU:w2.heap[w.heap.size+1]?=some (.cells #[Z wd,Z h] 43 (0,0)):=by rw[hb2.block _ (Array.getElem?_eq_some_iff.1 RE.out).1];exact RE
 have hY:w2.heap[w.heap.size+1+1]?=some (.cells #[Z 0,Z 0] 192 (0,0)):=by rw[hb2.block _ (Array.getElem?_eq_some_iff.1 kD.out).1];exact kD
 have HX:=Y hX;have HU:=Y hU;have fT:=Y hY;clear hb2 hX hU hY;obtain⟨B,hB⟩:=aG w.heap.size;rw[hB]at HX HU fT ⊢;have rI:=Y hB;clear hB;have x0:=ag HX 0 rfl;have x1:=ag HX 1 rfl;have u0:=ag HU 0 rfl;have u1:=ag HU 1 rfl;simp only[mB,if_pos];have dY:Hid (∀W:World,U w W->∀(q1 q2:Addr) (x1 x2:Value),B<=q1.block->B<=q2.block->U w ((W.setCell q1 x1).setCell q2 x2)):=fun W hb q1 q2 x1 x2 g1 g2 =>
  (hb.setCell (by rw[rI.out];exact g1) _).setCell (by rw[rI.out];exact g2) _
 by_cases hl:0<l
 .have HG:=Y (fun W=>ads r l p (decide (0<v)) W hl l2)
  unfold eo at HG;have qh:qf r l wd h p v=.tuple #[.agg #[Z (if l=1/\decide (0<v)=true then p else r),Z (l-1)],.bool false,.nilIface]:=by simp[qf,eo,bm.pu,bm.px,bm.py,hl]
  have oh:=Y qh;clear qh;generalize (if l=1/\decide (0<v)=true then p else r)=nr at HG oh;have HN:=oh;by_cases hv:0<v
  all_goals
   first | (have jL:decide (0<v)=true:=(by simpa using hv);rw[jL]at HG) | (have jL:decide (0<v)=false:=(by simpa using hv);rw[jL]at HG)
   go_wp2_with fail
   refine(HG _).mono ?_;rintro e w3 ⟨rfl,hb3⟩;have av:Hid (U w w3):=ar HB hb3;have hY:w3.heap[B+1+1]?=some (.cells #[Z 0,Z 0] 192 (0,0)):=by rw[hb3.block _ (Array.getElem?_eq_some_iff.1 fT.out).1];exact fT
   have y0:=ag hY 0 rfl;have y1:=ag hY 1 rfl;have z0:=aC hY 0;have dw:=aC hY 1;clear hb3 x0 x1 u0 u1 hY;simp only[];go_wp2;exact bodyPost_ret (v:=.tuple #[.agg #[Z nr,Z (l-1)],.bool false,.nilIface]) (by simp[results,results221,go_sem,y0,y1]) rfl ⟨by rw[oh.out],dY _ av _ _ _ _ (by simp;omega) (by simp;omega)⟩
 .obtain rfl:l=0:=by omega
  have dx:=ag fT 0 rfl;by_cases hv:0<v
  .have jL:decide (0<v)=true:=by simpa using hv
   have hp:1<=p/\p<=1000:=by omega
   have HG:=Y (fun W=>adt wd h r p W r1 r2 zn wd2 hp.1 hp.2);unfold eo at HG;cases hin:bm.xg wd r p with
   | false =>
    have qh:qf r 0 wd h p v=.tuple #[.agg #[Z r,Z h],.bool false,.nilIface]:=by simp[qf,eo,bm.pu,bm.px,bm.py,hin,hv]
    have oh:=Y qh;rw[hin]at HG;clear qh hin
    go_wp2_with fail
    refine(HG _).mono ?_;rintro e w3 ⟨rfl,hb3⟩;have av:Hid (U w w3):=ar HB hb3;have hX:w3.heap[B]?=some (.cells #[Z r,Z 0] 192 (0,0)):=by rw[hb3.block _ (Array.getElem?_eq_some_iff.1 HX.out).1];exact HX
    have hU:w3.heap[B+1]?=some (.cells #[Z wd,Z h] 43 (0,0)):=by rw[hb3.block _ (Array.getElem?_eq_some_iff.1 HU.out).1];exact HU
    have hY:w3.heap[B+1+1]?=some (.cells #[Z 0,Z 0] 192 (0,0)):=by rw[hb3.block _ (Array.getElem?_eq_some_iff.1 fT.out).1];exact fT
    clear x0 x1 u0 u1 dx;have x0:=ag hX 0 rfl;have x1:=ag hX 1 rfl;have u1:=ag hU 1 rfl;have y0:=ag hY 0 rfl;have y1:=ag hY 1 rfl;have z0:=aC hY 0;have dw:=aC hY 1;have f0:=aC hX 0;have f1:=aC hX 1;clear hb3 hX hU hY;simp only[];go_wp2;exact bodyPost_ret (v:=.tuple #[.agg #[Z r,Z h],.bool false,.nilIface]) (by simp[results,results221,go_sem,y0,y1]) rfl ⟨by rw[oh.out],dY _ (av.setCell (by rw[rI.out];exact E _) _) _ _ _ _ (by simp;omega) (by simp;omega)⟩
   | true =>
    have qh:qf r 0 wd h p v=.tuple #[.agg #[Z p,Z 0],.bool true,.nilIface]:=by simp[qf,eo,bm.pu,bm.px,bm.py,hin,hv]
    have oh:=Y qh;rw[hin]at HG;clear qh hin
    go_wp2_with fail
    refine(HG _).mono ?_;rintro e w3 ⟨rfl,hb3⟩;have av:Hid (U w w3):=ar HB hb3;have hX:w3.heap[B]?=some (.cells #[Z r,Z 0] 192 (0,0)):=by rw[hb3.block _ (Array.getElem?_eq_some_iff.1 HX.out).1];exact HX
    have hU:w3.heap[B+1]?=some (.cells #[Z wd,Z h] 43 (0,0)):=by rw[hb3.block _ (Array.getElem?_eq_some_iff.1 HU.out).1];exact HU
    have hY:w3.heap[B+1+1]?=some (.cells #[Z 0,Z 0] 192 (0,0)):=by rw[hb3.block _ (Array.getElem?_eq_some_iff.1 fT.out).1];exact fT
    clear x0 x1 u0 u1 dx;have x0:=ag hX 0 rfl;have x1:=ag hX 1 rfl;have u1:=ag hU 1 rfl;have y0:=ag hY 0 rfl;have y1:=ag hY 1 rfl;have z0:=aC hY 0;have dw:=aC hY 1;have f0:=aC hX 0;have f1:=aC hX 1;clear hb3 hX hU hY;simp only[];go_wp2;exact bodyPost_ret (v:=.tuple #[.agg #[Z p,Z 0],.bool true,.nilIface]) (by simp[results,results221,go_sem,y0,y1]) rfl ⟨by rw[oh.out],dY _ (av.setCell (by rw[rI.out];exact E _) _) _ _ _ _ (by simp;omega) (by simp;omega)⟩
  .have jL:decide (0<v)=false:=by simpa using hv
   have qh:qf r 0 wd h p v=.tuple #[.agg #[Z r,Z 0],.bool true,.nilIface]:=by simp[qf,eo,bm.pu,bm.px,bm.py,hv]
   have oh:=Y qh;have y1:=ag fT 1 rfl;have z0:=aC fT 0;have dw:=aC fT 1;clear qh;go_wp2;exact bodyPost_ret (v:=.tuple #[.agg #[Z r,Z 0],.bool true,.nilIface]) (by simp[results,results221,go_sem,dx,y1]) rfl ⟨by rw[oh.out],dY _ HB _ _ _ _ (by simp;omega) (by simp;omega)⟩
def oB:Value:=.agg #[.int .u8 0,Z 0,Z 0,Z 0,Z 0,Z 0,Z 0,Z 0]
def s5(s:ByteArray):Value:=.agg #[.int .u8 (aS s 0),Z (aS s 1),Z (aJ s 2),Z (aS s 6),Z (aS s 7),Z (aJ s 8),Z (aJ s 12),Z (aJ s 16)]
theorem ae6(s:ByteArray)(v0:Value)(w:World)(c0:w.cell? (O 0 0)=some v0)(hs:((s.size:Int) != 30)=true):
  Calls prog 86 #[.string s] w fun e w'=>e=.returned (.tuple #[oB,v0])/\U w w':=by
 have hz:0<w.heap.size:=bCq _ _ c0;go_enter func86,ntmps86;go_wp2
 go_region
 all_goals go_wp2
 all_goals
  refine bodyPost_ret (v:=.tuple #[oB,v0]) (by simp[results,results86,go_sem,oB]) rfl ⟨rfl,?_⟩
  repeat first | exact aj | refine Below.drew ?_ | refine Below.setCell (p:=(O w.heap.size _)) ?_ (E w.heap.size) _
theorem ae5(s:ByteArray)(v4:Value)(w:World)(c4:w.cell? (O 5 0)=some v4)(hs:((s.size:Int) != 30)=false)(hne:((ft s 26:Int) != (ah.sum (s.data.toList.take 26):Int))=true):
  Calls prog 86 #[.string s] w fun e w'=>e=.returned (.tuple #[oB,v4])/\U w w':=by
 have hz:5<w.heap.size:=bCq _ _ c4;have hs':s.size=30:=by have:=hs;simp at this;omega
 have J':26<=s.size:=by omega
 have f26:(26:Int)<=s.size:=by omega
 have hl:ft (s.extract 26 s.size) 0=ft s 26:=zB s 26 s.size (by omega) (E _);have jk:=Y hs';clear hs';go_enter func86,ntmps86;go_wp2
 go_quiet (first | (go_at_call 148;refine Calls.quiet_of (zC _ _ ?_);(simp;have:=jk.out;omega)) | (go_at_call 149;refine Calls.quiet_of_same (vt _ _ ?_);(simp[maxLen];have:=jk.out;omega)))
 go_wp2
 go_region
 all_goals go_wp2
 all_goals
  refine bodyPost_ret (v:=.tuple #[oB,v4]) (by simp[results,results86,go_sem,oB]) rfl ⟨rfl,?_⟩
  iterate 8 refine Below.setCell (p:=(O w.heap.size _)) ?_ (E w.heap.size) _
  exact aj.trans ((below_drewN (nq+1)).mono (by simp))
theorem ae4(s:ByteArray)(v2:Value)(w:World)(c2:w.cell? (O 3 0)=some v2)(hs:((s.size:Int) != 30)=false)(hne:((ft s 26:Int) != (ah.sum (s.data.toList.take 26):Int))=false)(hsp:((s.extract 20 26).toList==[0,0,0,0,0,0])=false):
  Calls prog 86 #[.string s] w fun e w'=>e=.returned (.tuple #[oB,v2])/\U w w':=by
 have hz:3<w.heap.size:=bCq _ _ c2;have hs':s.size=30:=by have:=hs;simp at this;omega
 have Ka:20<=s.size:=by omega
 have f20:(20:Int)<=s.size:=by omega
 have J':26<=s.size:=by omega
 have f26:(26:Int)<=s.size:=by omega
 have hl:ft (s.extract 26 s.size) 0=ft s 26:=zB s 26 s.size (by omega) (E _);have jk:=Y hs';clear hs';go_enter func86,ntmps86;go_wp2
 go_quiet (first | (go_at_call 148;refine Calls.quiet_of (zC _ _ ?_);(simp;have:=jk.out;omega)) | (go_at_call 149;refine Calls.quiet_of_same (vt _ _ ?_);(simp[maxLen];have:=jk.out;omega)))
 go_wp2
 go_region
 all_goals go_wp2
 all_goals
  refine bodyPost_ret (v:=.tuple #[oB,v2]) (by simp[results,results86,go_sem,oB]) rfl ⟨rfl,?_⟩
  iterate 8 refine Below.setCell (p:=(O w.heap.size _)) ?_ (E w.heap.size) _
  exact aj.trans ((below_drewN (nq+1)).mono (by simp))
theorem ae2(s:ByteArray)(w:World)(hs:((s.size:Int) != 30)=false)(hne:((ft s 26:Int) != (ah.sum (s.data.toList.take 26):Int))=false)(hsp:((s.extract 20 26).toList==[0,0,0,0,0,0])=true)(BS:Hid (∀aD,U w aD->Calls prog 151 #[s5 s] aD fun e w'=>e=.returned .nilIface/\U aD w')):
  Calls prog 86 #[.string s] w fun e w'=>e=.returned (.tuple #[s5 s,.nilIface])/\U w w':=by
 have hs':s.size=30:=by have:=hs;simp at this;omega
 have Ka:20<=s.size:=by omega
 have f20:(20:Int)<=s.size:=by omega
 have J':26<=s.size:=by omega
 have f26:(26:Int)<=s.size:=by omega
 have hl:ft (s.extract 26 s.size) 0=ft s 26:=zB s 26 s.size (by omega) (E _);have jk:=Y hs';clear hs';go_enter func86,ntmps86;go_wp2
 go_quiet (first | (go_at_call 148;refine Calls.quiet_of (zC _ _ ?_);(simp;have:=jk.out;omega)) | (go_at_call 149;refine Calls.quiet_of_same (vt _ _ ?_);(simp[maxLen];have:=jk.out;omega)))
 go_wp2_with fail
 have hB:U w ((w.alloc (.cells #[.int .u8 0,Z 0,Z 0,Z 0,Z 0,Z 0,Z 0,Z 0] 95)).drewN nq):=aj.trans ((below_drewN nq).mono (by simp));have HB:=Y hB;clear hB;refine(S8 s _ jk).mono ?_;rintro e w1 ⟨rfl,hb1⟩
 go_wp2_with fail
 have hz1:w.heap.size<w1.heap.size:=by have:=hb1.size;simp at this;omega
 have HB1:Hid (U w w1):=ar HB hb1;have cA:Hid (U w (w1.alloc (.cells #[.int .u8 (aS s 0),Z (aS s 1),Z (aJ s 2),Z (aS s 6),Z (aS s 7),Z (aJ s 8),Z (aJ s 12),Z (aJ s 16)] 95))):=HB1.alloc HB1.size _;have r0:w1.cell? (O w.heap.size 0)=some (.int .u8 0):=by rw[hb1.cell (p:=(O w.heap.size 0)) (by simp)];simp
 have z0:w1.frozen? (O w.heap.size 0)=false:=by rw[hb1.frozen (p:=(O w.heap.size 0)) (by simp)];simp
 have r1:w1.cell? (O w.heap.size 1)=some (Z 0):=by rw[hb1.cell (p:=(O w.heap.size 1)) (by simp)];simp
 have dw:w1.frozen? (O w.heap.size 1)=false:=by rw[hb1.frozen (p:=(O w.heap.size 1)) (by simp)];simp
 have r2:w1.cell? (O w.heap.size 2)=some (Z 0):=by rw[hb1.cell (p:=(O w.heap.size 2)) (by simp)];simp
 have z2:w1.frozen? (O w.heap.size 2)=false:=by rw[hb1.frozen (p:=(O w.heap.size 2)) (by simp)];simp
 have r3:w1.cell? (O w.heap.size 3)=some (Z 0):=by rw[hb1.cell (p:=(O w.heap.size 3)) (by simp)];simp
 have z3:w1.frozen? (O w.heap.size 3)=false:=by rw[hb1.frozen (p:=(O w.heap.size 3)) (by simp)];simp
 have r4:w1.cell? (O w.heap.size 4)=some (Z 0):=by rw[hb1.cell (p:=(O w.heap.size 4)) (by simp)];simp
 have z4:w1.frozen? (O w.heap.size 4)=false:=by rw[hb1.frozen (p:=(O w.heap.size 4)) (by simp)];simp
 have BU:w1.cell? (O w.heap.size 5)=some (Z 0):=by rw[hb1.cell (p:=(O w.heap.size 5)) (by simp)];simp
 have z5:w1.frozen? (O w.heap.size 5)=false:=by rw[hb1.frozen (p:=(O w.heap.size 5)) (by simp)];simp
 have r6:w1.cell? (O w.heap.size 6)=some (Z 0):=by rw[hb1.cell (p:=(O w.heap.size 6)) (by simp)];simp
 have zD:w1.frozen? (O w.heap.size 6)=false:=by rw[hb1.frozen (p:=(O w.heap.size 6)) (by simp)];simp
 have BV:w1.cell? (O w.heap.size 7)=some (Z 0):=by rw[hb1.cell (p:=(O w.heap.size 7)) (by simp)];simp
 have zE:w1.frozen? (O w.heap.size 7)=false:=by rw[hb1.frozen (p:=(O w.heap.size 7)) (by simp)];simp
 clear hb1;refine(BS _ cA).mono ?_;rintro e w2 ⟨rfl,hb2⟩;have HB2:Hid (U w w2):=ar cA hb2;have hz2:w1.heap.size<w2.heap.size:=by have:=hb2.size;simp at this;omega
 have R0:=(hb2.cell (p:=(O w.heap.size 0)) (by simp;omega)).trans ((World.cell?_alloc_lt _ _ (O w.heap.size 0) hz1).trans r0);have ae7:=(hb2.frozen (p:=(O w.heap.size 0)) (by simp;omega)).trans ((World.frozen?_alloc_old _ _ (O w.heap.size 0) (Nat.ne_of_lt hz1)).trans z0);have A0:w2.cell? (O w1.heap.size 0)=some (.int .u8 (aS s 0)):=by rw[hb2.cell (p:=(O w1.heap.size 0)) (by simp)];simp
 have dy:=(hb2.cell (p:=(O w.heap.size 1)) (by simp;omega)).trans ((World.cell?_alloc_lt _ _ (O w.heap.size 1) hz1).trans r1);have ae8:=(hb2.frozen (p:=(O w.heap.size 1)) (by simp;omega)).trans ((World.frozen?_alloc_old _ _ (O w.heap.size 1) (Nat.ne_of_lt hz1)).trans dw);have ae9:w2.cell? (O w1.heap.size 1)=some (Z (aS s 1)):=by rw[hb2.cell (p:=(O w1.heap.size 1)) (by simp)];simp
 have R2:=(hb2.cell (p:=(O w.heap.size 2)) (by simp;omega)).trans ((World.cell?_alloc_lt _ _ (O w.heap.size 2) hz1).trans r2);have afa:=(hb2.frozen (p:=(O w.heap.size 2)) (by simp;omega)).trans ((World.frozen?_alloc_old _ _ (O w.heap.size 2) (Nat.ne_of_lt hz1)).trans z2);have A2:w2.cell? (O w1.heap.size 2)=some (Z (aJ s 2)):=by rw[hb2.cell (p:=(O w1.heap.size 2)) (by simp)];simp
 have oC:=(hb2.cell (p:=(O w.heap.size 3)) (by simp;omega)).trans ((World.cell?_alloc_lt _ _ (O w.heap.size 3) hz1).trans r3);have afb:=(hb2.frozen (p:=(O w.heap.size 3)) (by simp;omega)).trans ((World.frozen?_alloc_old _ _ (O w.heap.size 3) (Nat.ne_of_lt hz1)).trans z3);have A3:w2.cell? (O w1.heap.size 3)=some (Z (aS s 6)):=by rw[hb2.cell (p:=(O w1.heap.size 3)) (by simp)];simp
 have Kc:=(hb2.cell (p:=(O w.heap.size 4)) (by simp;omega)).trans ((World.cell?_alloc_lt _ _ (O w.heap.size 4) hz1).trans r4);have afc:=(hb2.frozen (p:=(O w.heap.size 4)) (by simp;omega)).trans ((World.frozen?_alloc_old _ _ (O w.heap.size 4) (Nat.ne_of_lt hz1)).trans z4);have afd:w2.cell? (O w1.heap.size 4)=some (Z (aS s 7)):=by rw[hb2.cell (p:=(O w1.heap.size 4)) (by simp)];simp
 have Kd:=(hb2.cell (p:=(O w.heap.size 5)) (by simp;omega)).trans ((World.cell?_alloc_lt _ _ (O w.heap.size 5) hz1).trans BU);have afe:=(hb2.frozen (p:=(O w.heap.size 5)) (by simp;omega)).trans ((World.frozen?_alloc_old _ _ (O w.heap.size 5) (Nat.ne_of_lt hz1)).trans z5);have aff:w2.cell? (O w1.heap.size 5)=some (Z (aJ s 8)):=by rw[hb2.cell (p:=(O w1.heap.size 5)) (by simp)];simp
 have Ke:=(hb2.cell (p:=(O w.heap.size 6)) (by simp;omega)).trans ((World.cell?_alloc_lt _ _ (O w.heap.size 6) hz1).trans r6);have afg:=(hb2.frozen (p:=(O w.heap.size 6)) (by simp;omega)).trans ((World.frozen?_alloc_old _ _ (O w.heap.size 6) (Nat.ne_of_lt hz1)).trans zD);have afh:w2.cell? (O w1.heap.size 6)=some (Z (aJ s 12)):=by rw[hb2.cell (p:=(O w1.heap.size 6)) (by simp)];simp
 have Kf:=(hb2.cell (p:=(O w.heap.size 7)) (by simp;omega)).trans ((World.cell?_alloc_lt _ _ (O w.heap.size 7) hz1).trans BV);have afi:=(hb2.frozen (p:=(O w.heap.size 7)) (by simp;omega)).trans ((World.frozen?_alloc_old _ _ (O w.heap.size 7) (Nat.ne_of_lt hz1)).trans zE);have afj:w2.cell? (O w1.heap.size 7)=some (Z (aJ s 16)):=by rw[hb2.cell (p:=(O w1.heap.size 7)) (by simp)];simp
 clear hb2 r0 r1 r2 r3 r4 BU r6 BV z0 dw z2 z3 z4 z5 zD zE;go_wp2;refine bodyPost_ret (v:=.tuple #[s5 s,.nilIface]) (by simp[results,results86,go_sem,s5,R0,dy,R2,oC,Kc,Kd,Ke,Kf]) rfl ⟨rfl,?_⟩
 iterate 8 refine Below.setCell (p:=(O w.heap.size _)) ?_ (E w.heap.size) _
 exact HB2
theorem ae3(s:ByteArray)(T:TypeId)(x:Value)(w:World)(hs:((s.size:Int) != 30)=false)(hne:((ft s 26:Int) != (ah.sum (s.data.toList.take 26):Int))=false)(hsp:((s.extract 20 26).toList==[0,0,0,0,0,0])=true)(BS:Hid (∀aD,U w aD->Calls prog 151 #[s5 s] aD fun e w'=>e=.returned (.iface T x)/\U aD w')):
  Calls prog 86 #[.string s] w fun e w'=>e=.returned (.tuple #[oB,.iface T x])/\U w w':=by
 have hs':s.size=30:=by have:=hs;simp at this;omega
 have Ka:20<=s.size:=by omega
 have f20:(20:Int)<=s.size:=by omega
 have J':26<=s.size:=by omega
 have f26:(26:Int)<=s.size:=by omega
 have hl:ft (s.extract 26 s.size) 0=ft s 26:=zB s 26 s.size (by omega) (E _);have jk:=Y hs';clear hs';go_enter func86,ntmps86;go_wp2
 go_quiet (first | (go_at_call 148;refine Calls.quiet_of (zC _ _ ?_);(simp;have:=jk.out;omega)) | (go_at_call 149;refine Calls.quiet_of_same (vt _ _ ?_);(simp[maxLen];have:=jk.out;omega)))
 go_wp2_with fail
 have hB:U w ((w.alloc (.cells #[.int .u8 0,Z 0,Z 0,Z 0,Z 0,Z 0,Z 0,Z 0] 95)).drewN nq):=aj.trans ((below_drewN nq).mono (by simp));have HB:=Y hB;clear hB;refine(S8 s _ jk).mono ?_;rintro e w1 ⟨rfl,hb1⟩
 go_wp2_with fail
 have hz1:w.heap.size<w1.heap.size:=by have:=hb1.size;simp at this;omega
 have HB1:Hid (U w w1):=ar HB hb1;have cA:Hid (U w (w1.alloc (.cells #[.int .u8 (aS s 0),Z (aS s 1),Z (aJ s 2),Z (aS s 6),Z (aS s 7),Z (aJ s 8),Z (aJ s 12),Z (aJ s 16)] 95))):=HB1.alloc HB1.size _;have r0:w1.cell? (O w.heap.size 0)=some (.int .u8 0):=by rw[hb1.cell (p:=(O w.heap.size 0)) (by simp)];simp
 have z0:w1.frozen? (O w.heap.size 0)=false:=by rw[hb1.frozen (p:=(O w.heap.size 0)) (by simp)];simp
 have r1:w1.cell? (O w.heap.size 1)=some (Z 0):=by rw[hb1.cell (p:=(O w.heap.size 1)) (by simp)];simp
 have dw:w1.frozen? (O w.heap.size 1)=false:=by rw[hb1.frozen (p:=(O w.heap.size 1)) (by simp)];simp
 have r2:w1.cell? (O w.heap.size 2)=some (Z 0):=by rw[hb1.cell (p:=(O w.heap.size 2)) (by simp)];simp
 have z2:w1.frozen? (O w.heap.size 2)=false:=by rw[hb1.frozen (p:=(O w.heap.size 2)) (by simp)];simp
 have r3:w1.cell? (O w.heap.size 3)=some (Z 0):=by rw[hb1.cell (p:=(O w.heap.size 3)) (by simp)];simp
 have z3:w1.frozen? (O w.heap.size 3)=false:=by rw[hb1.frozen (p:=(O w.heap.size 3)) (by simp)];simp
 have r4:w1.cell? (O w.heap.size 4)=some (Z 0):=by rw[hb1.cell (p:=(O w.heap.size 4)) (by simp)];simp
 have z4:w1.frozen? (O w.heap.size 4)=false:=by rw[hb1.frozen (p:=(O w.heap.size 4)) (by simp)];simp
 have BU:w1.cell? (O w.heap.size 5)=some (Z 0):=by rw[hb1.cell (p:=(O w.heap.size 5)) (by simp)];simp
 have z5:w1.frozen? (O w.heap.size 5)=false:=by rw[hb1.frozen (p:=(O w.heap.size 5)) (by simp)];simp
 have r6:w1.cell? (O w.heap.size 6)=some (Z 0):=by rw[hb1.cell (p:=(O w.heap.size 6)) (by simp)];simp
 have zD:w1.frozen? (O w.heap.size 6)=false:=by rw[hb1.frozen (p:=(O w.heap.size 6)) (by simp)];simp
 have BV:w1.cell? (O w.heap.size 7)=some (Z 0):=by rw[hb1.cell (p:=(O w.heap.size 7)) (by simp)];simp
 have zE:w1.frozen? (O w.heap.size 7)=false:=by rw[hb1.frozen (p:=(O w.heap.size 7)) (by simp)];simp
 clear hb1;refine(BS _ cA).mono ?_;rintro e w2 ⟨rfl,hb2⟩;have HB2:Hid (U w w2):=ar cA hb2;have hz2:w1.heap.size<w2.heap.size:=by have:=hb2.size;simp at this;omega
 have R0:=(hb2.cell (p:=(O w.heap.size 0)) (by simp;omega)).trans ((World.cell?_alloc_lt _ _ (O w.heap.size 0) hz1).trans r0);have ae7:=(hb2.frozen (p:=(O w.heap.size 0)) (by simp;omega)).trans ((World.frozen?_alloc_old _ _ (O w.heap.size 0) (Nat.ne_of_lt hz1)).trans z0);have A0:w2.cell? (O w1.heap.size 0)=some (.int .u8 (aS s 0)):=by rw[hb2.cell (p:=(O w1.heap.size 0)) (by simp)];simp
 have dy:=(hb2.cell (p:=(O w.heap.size 1)) (by simp;omega)).trans ((World.cell?_alloc_lt _ _ (O w.heap.size 1) hz1).trans r1);have ae8:=(hb2.frozen (p:=(O w.heap.size 1)) (by simp;omega)).trans ((World.frozen?_alloc_old _ _ (O w.heap.size 1) (Nat.ne_of_lt hz1)).trans dw);have ae9:w2.cell? (O w1.heap.size 1)=some (Z (aS s 1)):=by rw[hb2.cell (p:=(O w1.heap.size 1)) (by simp)];simp
 have R2:=(hb2.cell (p:=(O w.heap.size 2)) (by simp;omega)).trans ((World.cell?_alloc_lt _ _ (O w.heap.size 2) hz1).trans r2);have afa:=(hb2.frozen (p:=(O w.heap.size 2)) (by simp;omega)).trans ((World.frozen?_alloc_old _ _ (O w.heap.size 2) (Nat.ne_of_lt hz1)).trans z2);have A2:w2.cell? (O w1.heap.size 2)=some (Z (aJ s 2)):=by rw[hb2.cell (p:=(O w1.heap.size 2)) (by simp)];simp
 have oC:=(hb2.cell (p:=(O w.heap.size 3)) (by simp;omega)).trans ((World.cell?_alloc_lt _ _ (O w.heap.size 3) hz1).trans r3);have afb:=(hb2.frozen (p:=(O w.heap.size 3)) (by simp;omega)).trans ((World.frozen?_alloc_old _ _ (O w.heap.size 3) (Nat.ne_of_lt hz1)).trans z3);have A3:w2.cell? (O w1.heap.size 3)=some (Z (aS s 6)):=by rw[hb2.cell (p:=(O w1.heap.size 3)) (by simp)];simp
 have Kc:=(hb2.cell (p:=(O w.heap.size 4)) (by simp;omega)).trans ((World.cell?_alloc_lt _ _ (O w.heap.size 4) hz1).trans r4);have afc:=(hb2.frozen (p:=(O w.heap.size 4)) (by simp;omega)).trans ((World.frozen?_alloc_old _ _ (O w.heap.size 4) (Nat.ne_of_lt hz1)).trans z4);have afd:w2.cell? (O w1.heap.size 4)=some (Z (aS s 7)):=by rw[hb2.cell (p:=(O w1.heap.size 4)) (by simp)];simp
 have Kd:=(hb2.cell (p:=(O w.heap.size 5)) (by simp;omega)).trans ((World.cell?_alloc_lt _ _ (O w.heap.size 5) hz1).trans BU);have afe:=(hb2.frozen (p:=(O w.heap.size 5)) (by simp;omega)).trans ((World.frozen?_alloc_old _ _ (O w.heap.size 5) (Nat.ne_of_lt hz1)).trans z5);have aff:w2.cell? (O w1.heap.size 5)=some (Z (aJ s 8)):=by rw[hb2.cell (p:=(O w1.heap.size 5)) (by simp)];simp
 have Ke:=(hb2.cell (p:=(O w.heap.size 6)) (by simp;omega)).trans ((World.cell?_alloc_lt _ _ (O w.heap.size 6) hz1).trans r6);have afg:=(hb2.frozen (p:=(O w.heap.size 6)) (by simp;omega)).trans ((World.frozen?_alloc_old _ _ (O w.heap.size 6) (Nat.ne_of_lt hz1)).trans zD);have afh:w2.cell? (O w1.heap.size 6)=some (Z (aJ s 12)):=by rw[hb2.cell (p:=(O w1.heap.size 6)) (by simp)];simp
 have Kf:=(hb2.cell (p:=(O w.heap.size 7)) (by simp;omega)).trans ((World.cell?_alloc_lt _ _ (O w.heap.size 7) hz1).trans BV);have afi:=(hb2.frozen (p:=(O w.heap.size 7)) (by simp;omega)).trans ((World.frozen?_alloc_old _ _ (O w.heap.size 7) (Nat.ne_of_lt hz1)).trans zE);have afj:w2.cell? (O w1.heap.size 7)=some (Z (aJ s 16)):=by rw[hb2.cell (p:=(O w1.heap.size 7)) (by simp)];simp
 clear hb2 r0 r1 r2 r3 r4 BU r6 BV z0 dw z2 z3 z4 z5 zD zE;go_wp2;refine bodyPost_ret (v:=.tuple #[oB,.iface T x]) (by simp[results,results86,go_sem,oB,R0,dy,R2,oC,Kc,Kd,Ke,Kf]) rfl ⟨rfl,?_⟩
 iterate 8 refine Below.setCell (p:=(O w.heap.size _)) ?_ (E w.heap.size) _
 exact HB2
theorem Ww{w:World}{base:Nat}{v:Value}{l:List Cv.af}(h:w.ownsRow base 197 5 v l.length (flat l)):(v=.slice none 0 0/\l=[])\/∃g cap,v=.slice (some (O g 0)) l.length cap/\fU w g 0 l:=by
 rcases h.2 with ⟨e,e2⟩ | ⟨g,cap,cur,e,hg,er,hle,_,_,_⟩
 .exact .inl ⟨e,List.eq_nil_of_length_eq_zero e2⟩
 .refine .inr ⟨g,cap,e,Bv fun j u hu=>?_⟩
  have:=World.ownsRow.cells h (g:=g) (by rw[e];rfl) j u hu
  have hp:(⟨g,0,none⟩:Addr).add j=(O g j):=by unfold Addr.add;split <;> simp_all
  rwa [hp]at this
end Go.Proofs.YtjolccidheflpaaGreatDoor
