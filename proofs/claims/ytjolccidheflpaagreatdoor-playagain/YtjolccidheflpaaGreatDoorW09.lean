/- What fields does, for every text of a frame's length. -/
import Derived.Test.YtjolccidheflpaaGreatDoorW07
import Derived.Test.YtjolccidheflpaaGreatDoorW08
import Derived.Test.YtjolccidheflpaaGreatDoorW00
import Derived.OneCell
import Derived.Laws.IdiomCopy
import Derived.Test.YtjolccidheflpaaGreatDoorW03
import Derived.RegionTactic
import Derived.ChangeAlike
namespace Go.Proofs.YtjolccidheflpaaGreatDoor
set_option maxHeartbeats 8000000
set_option maxRecDepth 100000
open Go.RowKit
theorem rX (s:ByteArray) (i:Nat):aA s i<4294967296:=by
 have:=kV s i;have:=kV s (i+1);have:=kV s (i+2);have:=kV s (i+3)
 unfold aA;omega
theorem rY (s:ByteArray) (a b:Nat) (h:a+4<=b) (hb:b<=s.size):aA (s.extract a b) 0=aA s a:=by
 simp only[aA];rw[oo s a b 0 (by omega) hb,oo s a b (0+1) (by omega) hb,oo s a b (0+2) (by omega) hb,oo s a b (0+3) (by omega) hb];rfl
theorem yh (s:ByteArray) (a b:Nat) (h:a+4<=b) (hb:b<=s.size):eJ (s.extract a b) 0=eJ s a:=by
 simp only[eJ];rw[oo s a b 0 (by omega) hb,oo s a b (0+1) (by omega) hb,oo s a b (0+2) (by omega) hb,oo s a b (0+3) (by omega) hb];rfl
theorem below_drewN {w:World} (m:Nat):Qd w (w.drewN m):=by
 induction m with
 | zero=>exact bRq _ _
 | succ n ih=>exact ih.drew
theorem Re (s:ByteArray) (w:World) (hs:s.size=30) :
  Calls Tryz.prog 150 #[.string s] w fun e w'=>e=.returned (.agg #[.int .u8 (aN s 0),Qa (aN s 1),Qa (aA s 2),Qa (aN s 6),Qa (aN s 7),Qa (aA s 8),Qa (aA s 12),Qa (aA s 16)])/\Qd w w':=by
 have iz:=hDq hs;have g0:0<s.size:=by omega
 have g1:1<s.size:=by omega
 have g6:6<s.size:=by omega
 have g7:7<s.size:=by omega
 have h1:(1:Int)<s.size:=by omega
 have h6:(6:Int)<s.size:=by omega
 have h7:(7:Int)<s.size:=by omega
 have e6:6<=s.size:=by omega
 have aof:12<=s.size:=by omega
 have aog:16<=s.size:=by omega
 have JB:20<=s.size:=by omega
 have f6:(6:Int)<=s.size:=by omega
 have f12:(12:Int)<=s.size:=by omega
 have f16:(16:Int)<=s.size:=by omega
 have f20:(20:Int)<=s.size:=by omega
 clear hs;go_enter Tryz.func150,Tryz.ntmps150;go_wp2;refine jT 28 (by kernel_rfl) (by kernel_rfl) ?_;simp only[List.take_succ_cons,List.take_zero,List.drop_succ_cons,List.drop_zero]
 repeat (first | go_big_quiet_step ((go_at_call 168;refine Calls.quiet_of (oq _ _ ?_);(simp;have:=iz.out;omega))) | quiet_step ((go_at_call 168;refine Calls.quiet_of (oq _ _ ?_);(simp;have:=iz.out;omega))))
 refine wpQuiet_nil ?_;intro _ hw';obtain⟨nq,hw''⟩:=hw';subst hw'';go_wp2;have E:Value.agg #[.int .u8 (s[0]).toNat,Qa (wrap64 (s[1]).toNat),Qa (wrap64 (aA (s.extract 2 6) 0)),Qa (wrap64 (s[6]).toNat),Qa (wrap64 (s[7]).toNat),Qa (wrap64 (aA (s.extract 8 12) 0)),Qa (wrap64 (aA (s.extract 12 16) 0)),Qa (wrap64 (aA (s.extract 16 20) 0))]
   = .agg #[.int .u8 (aN s 0),Qa (aN s 1),Qa (aA s 2),Qa (aN s 6),Qa (aN s 7),Qa (aA s 8),Qa (aA s 12),Qa (aA s 16)]:=by
  have hs:=iz.out;rw[kx s 0 g0,kx s 1 g1,kx s 6 g6,kx s 7 g7,wa (aN s 1) (by have:=kV s 1;omega),wa (aN s 6) (by have:=kV s 6;omega),wa (aN s 7) (by have:=kV s 7;omega),
   rY s 2 6 (by omega) (by omega),rY s 8 12 (by omega) (by omega),rY s 12 16 (by omega) (by omega),rY s 16 20 (by omega) (by omega),wa (aA s 2) (by have:=rX s 2;omega),wa (aA s 8) (by have:=rX s 8;omega),wa (aA s 12) (by have:=rX s 12;omega),wa (aA s 16) (by have:=rX s 16;omega)]
 refine bodyPost_ret (v:=.agg #[.int .u8 (s[0]).toNat,Qa (wrap64 (s[1]).toNat),Qa (wrap64 (aA (s.extract 2 6) 0)),Qa (wrap64 (s[6]).toNat),Qa (wrap64 (s[7]).toNat),Qa (wrap64 (aA (s.extract 8 12) 0)),Qa (wrap64 (aA (s.extract 12 16) 0)),Qa (wrap64 (aA (s.extract 16 20) 0))]) (by simp[results,Tryz.results150,go_sem]) rfl ⟨?_,?_⟩
 .rw[E]
 .iterate 8 refine Below.setCell (p:=(Qb w.heap.size _)) ?_ (lRq w.heap.size) _
  exact((bRq _ _).alloc (lRq _) _).trans ((below_drewN nq).mono (by simp))
theorem dL {w:World} (m:Nat):Qd w (w.drewN m):=⟨rfl,rfl,rfl,lRq _,fun _ _=>rfl⟩
structure h9 (w:World) (T:TypeId) (v1 v6 v7:Value):Prop where
 c1:w.cell? (Qb 1 0)=some (.iface T v1)
 c6:w.cell? (Qb 7 0)=some (.iface T v6)
 c7:w.cell? (Qb 8 0)=some (.iface T v7)
theorem h9.later {w w':World} {T:TypeId} {v1 v6 v7:Value} (h:h9 w T v1 v6 v7) (hb:Qd w w'):h9 w' T v1 v6 v7 :=
 ⟨cell_later hb h.c1,cell_later hb h.c6,cell_later hb h.c7⟩
theorem QT (cap:Nat) (a:Option Addr) (w:World):Calls Tryz.prog 250 #[.slice a 0 cap] w fun e w'=>e=.returned .nilIface/\w'=w:=by
 go_enter Tryz.func250,Tryz.ntmps250;go_wp2;refine wp_loop_rounds 1 ?_;rw[rounds_succ];go_wp2;go_ret;exact⟨rfl,rfl⟩
theorem acr (n cap:Nat) (a:Option Addr) (T:TypeId) (v1 v6 v7:Value) (w:World) (h:h9 w T v1 v6 v7) (hn:120<n):Calls Tryz.prog 250 #[.slice a n cap] w fun e w'=>e=.returned (.iface T v7)/\w'=w:=by
 have hn':(120:Int)<n:=by omega
 have c7:=h.c7;go_enter Tryz.func250,Tryz.ntmps250;go_wp2;go_ret;exact⟨rfl,rfl⟩
theorem Jx (b off cap n:Nat) (l:List Cv.ag) (T:TypeId) (v1 v6 v7:Value) (w:World) (hn:Hid (l.length=n)) (hn':n<=120) (hcap:n<=cap) (hl:Hid (dR w b off l)) (he:Hid (h9 w T v1 v6 v7)) :
  Calls Tryz.prog 250 #[.slice (some (Qb b off)) n cap] w fun e w'=>(Cv.Ak l n/\e=.returned .nilIface \/
   ∃ i B,i<n/\Cv.Ak l i/\Cv.mZ l i=false/\e=.returned (.iface 172 (Qc B))/\w'.cell? (Qb B 0)=some (Qa (i:Nat))/\w'.cell? (Qb B 1)=some (if Cv.ok (Cv.nth l i)=true then .iface T v6 else .iface T v1))/\Qd w w':=by
 have hni:¬ (120:Int)<n:=by omega
 go_enter Tryz.func250,Tryz.ntmps250;go_wp2
 go_loopw [11] (fun i wr=>∃ k:Nat,k<=n/\i=Qa k/\Cv.Ak l k/\Qd w wr) (fun i _=>n-(intOf i).toNat)
 case atStart=>exact⟨0,Nat.zero_le _,rfl,fun i hi=>absurd hi (Nat.not_lt_zero i),bRq _ _⟩
 case round =>
  obtain⟨k,hk,rfl,mf,hb⟩:=hrel;have HW:=hDq mf;have HB:=hDq hb;clear mf hb;by_cases hlt:k<n
  .have aX:(k:Int)<n:=by omega
   have an6:k<=cap:=by omega
   obtain⟨c0,c1,c2,c3,c4⟩:=(hl.out.later HB.out) k (by rw[hn.out];exact hlt);have HX:Hid (∃ x,x=Cv.nth l k):=⟨_,rfl⟩;generalize hx:Cv.nth l k=x at *;have HX:=hDq hx;clear hx
   go_wp2_with fail
   refine(acs x _).mono ?_;rintro e w2 ⟨rfl,hb2⟩;have HB2:Hid (Qd w w2):=(HB.out.alloc HB.out.size _).trans (hb2.mono (by have:=HB.out.size;simp;omega));have d0:w2.cell? (Qb wr.heap.size 0)=some (Qa x.id):=by rw[hb2.cell (p:=(Qb wr.heap.size 0)) (by simp)];simp
   clear hb2 c0 c1 c2 c3 c4;cases hok:Cv.ok x with
   | false =>
    have yf:=hDq hok;clear hok;have e1:=(he.out.later HB2.out).c1;simp only[];go_wp2;go_ret;refine⟨.inr ⟨k,w2.heap.size,hlt,HW.out,?_,rfl,by simp,?_⟩,HB2.out.alloc HB2.out.size _⟩
    .unfold Cv.mZ;rw[HX.out,yf.out];rfl
    .rw[HX.out,yf.out];simp
   | true =>
    have yf:=hDq hok;clear hok;have hL:=hDq ((hl.out.later HB2.out).take k);have hT:Hid ((l.take k).length=k):=by show _=_;rw[lKq,hn.out];omega
    simp only[];go_wp2;refine jT 5 (by kernel_rfl) (by kernel_rfl) ?_;simp only[List.take_succ_cons,List.take_zero,List.drop_succ_cons,List.drop_zero]
    repeat (first | go_big_quiet_step (fail) | quiet_step (fail))
    refine wpQuiet_nil ?_;intro _ hw';obtain⟨nq,hw''⟩:=hw';subst hw'';have au:Hid (Qd w (w2.drewN nq)):=HB2.out.trans ((dL nq).mono HB2.out.size);have hL3:=hDq (hL.out.later (dL nq));clear hL;generalize w2.drewN nq=w3 at *
    go_wp2_with fail
    refine(acu b off cap k x.id (l.take k) w3 hT (by omega) hL3).mono ?_;rintro e w4 ⟨rfl,hb4⟩;have bJ:=hDq (au.out.trans (hb4.mono au.out.size));clear hb4 hL3 d0;cases D5:Cv.has (l.take k) x.id with
    | true =>
     have acv:=hDq D5;clear D5;have e6:=(he.out.later bJ.out).c6;simp only[];go_wp2;go_ret;refine⟨.inr ⟨k,w4.heap.size,hlt,HW.out,?_,rfl,by simp,?_⟩,bJ.out.alloc bJ.out.size _⟩
     .unfold Cv.mZ;rw[HX.out,yf.out,acv.out];rfl
     .rw[HX.out,yf.out];simp
    | false =>
     have QV:Cv.Ak l (k+1):=by
      intro i hi;by_cases e:i=k
      .rw[e];unfold Cv.mZ;rw[HX.out,yf.out,D5];rfl
      .exact HW.out i (by omega)
     have acw:=hDq QV;clear QV D5;simp only[];go_wp2;exact⟨⟨k+1,by omega,by go_num,acw.out,bJ.out⟩,by simp[intOf];omega⟩
  .have aX:¬ (k:Int)<n:=by omega
   have dW:k=n:=by omega
   have mf:=HW.out;rw[dW]at mf;have acx:=hDq mf;clear mf dW;go_wp2;go_ret;exact⟨.inl ⟨acx.out,rfl⟩,HB.out⟩
theorem aci (b off cap n:Nat) (l:List Cv.ag) (T:TypeId) (v1 v6 v7:Value) (w:World) (hn:Hid (l.length=n)) (hcap:n<=cap) (hl:Hid (dR w b off l)) (he:Hid (h9 w T v1 v6 v7)) (ye:¬ Cv.d8 l) :
  Calls Tryz.prog 250 #[.slice (some (Qb b off)) n cap] w fun e w'=>(∃ U x,e=.returned (.iface U x))/\Qd w w':=by
 by_cases h:120<n
 .refine(acr n cap _ T v1 v6 v7 w he.out h).mono ?_
  rintro e w' ⟨rfl,rfl⟩;exact⟨⟨_,_,rfl⟩,bRq _ _⟩
 .refine(Jx b off cap n l T v1 v6 v7 w hn (by omega) hcap hl he).mono ?_
  rintro e w' ⟨h1 | ⟨i,B,_,_,_,rfl,_⟩,hb⟩
  .exact absurd ⟨by rw[hn.out];omega,by rw[hn.out];exact h1.1⟩ ye
  .exact⟨⟨_,_,rfl⟩,hb⟩
theorem QU (b off cap n:Nat) (l:List Cv.ag) (T:TypeId) (v1 v6 v7:Value) (w:World) (hn:Hid (l.length=n)) (hcap:n<=cap) (hl:Hid (dR w b off l)) (he:Hid (h9 w T v1 v6 v7)) (hok:Cv.d8 l) :
  Calls Tryz.prog 250 #[.slice (some (Qb b off)) n cap] w fun e w'=>e=.returned .nilIface/\Qd w w':=by
 have tP:=hok.1;rw[hn.out]at tP;refine(Jx b off cap n l T v1 v6 v7 w hn tP hcap hl he).mono ?_;rintro e w' ⟨h1 | ⟨i,B,hi,_,hno,_⟩,hb⟩
 .exact⟨h1.2,hb⟩
 .rw[hok.2 i (by rw[hn.out];exact hi)]at hno
  cases hno
theorem Q0 (b off cap n:Nat) (l:List Cv.ag) (T:TypeId) (v1 v6 v7:Value) (w:World) (hn:Hid (l.length=n)) (hcap:n<=cap) (hl:Hid (dR w b off l)) (he:Hid (h9 w T v1 v6 v7)) (hok:Hid (Cv.d8 l)) :
  Calls Tryz.prog 315 #[.slice (some (Qb b off)) n cap] w fun e w'=>e=.returned (.slice (some (Qb b off)) n cap)/\Qd w w':=by
 go_enter Tryz.func315,Tryz.ntmps315
 go_wp2_with fail
 refine(QU b off cap n l T v1 v6 v7 w hn hcap hl he hok.out).mono ?_;rintro e w1 ⟨rfl,hb1⟩;have HB1:=hDq hb1;clear hb1;simp only[];go_wp2;go_ret;exact⟨rfl,HB1.out⟩
theorem acD (cap:Nat) (a:Option Addr) (w:World):Calls Tryz.prog 315 #[.slice a 0 cap] w fun e w'=>e=.returned (.slice a 0 cap)/\w'=w:=by
 go_enter Tryz.func315,Tryz.ntmps315
 go_wp2_with fail
 refine(QT cap a w).mono ?_;rintro e w1 ⟨rfl,rfl⟩;simp only[];go_wp2;go_ret;exact⟨rfl,rfl⟩
theorem Q5 (cap:Nat) (a:Option Addr) (f:Value) (w:World):Calls Tryz.prog 308 #[.slice a 0 cap,f] w fun e w'=>e=.returned (Qa 0)/\w'=w:=by
 go_enter Tryz.func308,Tryz.ntmps308
 go_wp2_with fail
 refine(acD cap a w).mono ?_;rintro e w1 ⟨rfl,rfl⟩;simp only[];go_wp2;refine wp_loop_rounds 1 ?_;rw[rounds_succ];go_wp2;go_ret;exact⟨rfl,rfl⟩
theorem acE (b off cap n B:Nat) (p:Int) (l:List Cv.ag) (T:TypeId) (v1 v6 v7:Value) (w:World) (hn:Hid (l.length=n)) (hcap:n<=cap) (hl:Hid (dR w b off l)) (he:Hid (h9 w T v1 v6 v7)) (hok:Hid (Cv.d8 l)) (hc:w.cell? (Qb B 0)=some (Qa p)) :
  Calls Tryz.prog 308 #[.slice (some (Qb b off)) n cap,.func (.func 309) #[] #[Qc B]] w fun e w'=>e=.returned (Qa (Cv.dK (Cv.h_ p) l))/\Qd w w':=by
 have tP:=hok.out.1;rw[hn.out]at tP;have HR:Hid (∀ k,0<=Cv.dK (Cv.h_ p) (l.take k)/\Cv.dK (Cv.h_ p) (l.take k)<=120000):=fun k=>by
  have:=Cv.nc (Cv.h_ p) (l.take k) (hok.out.oks.take k)
  have h2:(l.take k).length<=120:=by rw[lKq,hn.out];omega
  omega
 go_enter Tryz.func308,Tryz.ntmps308
 go_wp2_with fail
 refine(Q0 b off cap n l T v1 v6 v7 w hn hcap hl he hok).mono ?_;rintro e w1 ⟨rfl,hb1⟩;have HB1:=hDq hb1;clear hb1;simp only[];go_wp2
 go_loopw [5,11] (fun s i wr=>∃ k:Nat,k<=n/\i=Qa k/\s=Qa (Cv.dK (Cv.h_ p) (l.take k))/\Qd w wr) (fun _ i _=>n-(intOf i).toNat)
 case atStart=>exact⟨0,Nat.zero_le _,rfl,rfl,HB1.out⟩
 case round =>
  obtain⟨k,hk,rfl,rfl,hb⟩:=hrel;have HB:=hDq hb;clear hb;by_cases hlt:k<n
  .have aX:(k:Int)<n:=by omega
   obtain⟨c0,c1,c2,c3,c4⟩:=(hl.out.later HB.out) k (by rw[hn.out];exact hlt);have HS:=hDq (Cv.Jt (Cv.h_ p) (l:=l) (k:=k) (by rw[hn.out];exact hlt));obtain⟨r1,r2⟩:=HR.out k;have bq:=hDq (HR.out (k+1));rw[HS.out]at bq;generalize Cv.dK (Cv.h_ p) (l.take k)=sk at *;generalize Cv.nth l k=x at *;have hcc:=fun W (h:Qd w W)=>acF x B p W (cell_later h hc);have Al:=hDq hcc;clear hcc;have eX:Hid (Qd w (wr.alloc (.cells #[Qa x.id,Qa x.ak,Qa x.sd,Qa x.pr,Qa x.q] 197))):=HB.out.alloc HB.out.size _
   go_wp2_with fail
   refine(Al.out _ eX.out).mono ?_;rintro e w2 ⟨rfl,hb2⟩;have HB2:Hid (Qd w w2):=eX.out.trans (hb2.mono eX.out.size);have d4:w2.cell? (Qb wr.heap.size 4)=some (Qa x.q):=by rw[hb2.cell (p:=(Qb wr.heap.size 4)) (by simp)];simp
   clear hb2 c0 c1 c2 c3 c4 Al eX;cases hp:Cv.h_ p x with
   | true =>
    have HS2:=hDq (show Cv.dK (Cv.h_ p) (l.take (k+1))=sk+x.q by have:=HS.out;rw[hp]at this;simpa using this);have hr2:0<=sk+x.q/\sk+x.q<=120000:=by have:=bq.out;rw[hp]at this;simpa using this
    clear HS bq hp;obtain⟨r3,r4⟩:=hr2;simp only[];go_wp2;exact⟨⟨k+1,by omega,by go_num,by rw[HS2.out],HB2.out⟩,by simp[intOf];omega⟩
   | false =>
    have HS2:=hDq (show Cv.dK (Cv.h_ p) (l.take (k+1))=sk by have:=HS.out;rw[hp]at this;simpa using this);clear HS bq hp;simp only[];go_wp2;exact⟨⟨k+1,by omega,by go_num,by rw[HS2.out],HB2.out⟩,by simp[intOf];omega⟩
  .have aX:¬ (k:Int)<n:=by omega
   have dW:l.take k=l:=by
    have:k=l.length:=by rw[hn.out];omega
    rw[this,List.take_length]
   have yg:=hDq dW;clear dW;go_wp2;go_ret;exact⟨by rw[yg.out];rfl,HB.out⟩
theorem acG (b off cap n B:Nat) (p:Int) (l:List Cv.ag) (T:TypeId) (v1 v6 v7:Value) (w:World) (hn:Hid (l.length=n)) (hcap:n<=cap) (hl:Hid (dR w b off l)) (he:Hid (h9 w T v1 v6 v7)) (hok:Hid (Cv.d8 l)) (hc:w.cell? (Qb B 0)=some (Qa p)) :
  Calls Tryz.prog 308 #[.slice (some (Qb b off)) n cap,.func (.func 310) #[] #[Qc B]] w fun e w'=>e=.returned (Qa (Cv.dK (Cv.sB p) l))/\Qd w w':=by
 have tP:=hok.out.1;rw[hn.out]at tP;have HR:Hid (∀ k,0<=Cv.dK (Cv.sB p) (l.take k)/\Cv.dK (Cv.sB p) (l.take k)<=120000):=fun k=>by
  have:=Cv.nc (Cv.sB p) (l.take k) (hok.out.oks.take k)
  have h2:(l.take k).length<=120:=by rw[lKq,hn.out];omega
  omega
 go_enter Tryz.func308,Tryz.ntmps308
 go_wp2_with fail
 refine(Q0 b off cap n l T v1 v6 v7 w hn hcap hl he hok).mono ?_;rintro e w1 ⟨rfl,hb1⟩;have HB1:=hDq hb1;clear hb1;simp only[];go_wp2
 go_loopw [5,11] (fun s i wr=>∃ k:Nat,k<=n/\i=Qa k/\s=Qa (Cv.dK (Cv.sB p) (l.take k))/\Qd w wr) (fun _ i _=>n-(intOf i).toNat)
 case atStart=>exact⟨0,Nat.zero_le _,rfl,rfl,HB1.out⟩
 case round =>
  obtain⟨k,hk,rfl,rfl,hb⟩:=hrel;have HB:=hDq hb;clear hb;by_cases hlt:k<n
  .have aX:(k:Int)<n:=by omega
   obtain⟨c0,c1,c2,c3,c4⟩:=(hl.out.later HB.out) k (by rw[hn.out];exact hlt);have HS:=hDq (Cv.Jt (Cv.sB p) (l:=l) (k:=k) (by rw[hn.out];exact hlt));obtain⟨r1,r2⟩:=HR.out k;have bq:=hDq (HR.out (k+1));rw[HS.out]at bq;generalize Cv.dK (Cv.sB p) (l.take k)=sk at *;generalize Cv.nth l k=x at *;have hcc:=fun W (h:Qd w W)=>acH x B p W (cell_later h hc);have Al:=hDq hcc;clear hcc;have eX:Hid (Qd w (wr.alloc (.cells #[Qa x.id,Qa x.ak,Qa x.sd,Qa x.pr,Qa x.q] 197))):=HB.out.alloc HB.out.size _
   go_wp2_with fail
   refine(Al.out _ eX.out).mono ?_;rintro e w2 ⟨rfl,hb2⟩;have HB2:Hid (Qd w w2):=eX.out.trans (hb2.mono eX.out.size);have d4:w2.cell? (Qb wr.heap.size 4)=some (Qa x.q):=by rw[hb2.cell (p:=(Qb wr.heap.size 4)) (by simp)];simp
   clear hb2 c0 c1 c2 c3 c4 Al eX;cases hp:Cv.sB p x with
   | true =>
    have HS2:=hDq (show Cv.dK (Cv.sB p) (l.take (k+1))=sk+x.q by have:=HS.out;rw[hp]at this;simpa using this);have hr2:0<=sk+x.q/\sk+x.q<=120000:=by have:=bq.out;rw[hp]at this;simpa using this
    clear HS bq hp;obtain⟨r3,r4⟩:=hr2;simp only[];go_wp2;exact⟨⟨k+1,by omega,by go_num,by rw[HS2.out],HB2.out⟩,by simp[intOf];omega⟩
   | false =>
    have HS2:=hDq (show Cv.dK (Cv.sB p) (l.take (k+1))=sk by have:=HS.out;rw[hp]at this;simpa using this);clear HS bq hp;simp only[];go_wp2;exact⟨⟨k+1,by omega,by go_num,by rw[HS2.out],HB2.out⟩,by simp[intOf];omega⟩
  .have aX:¬ (k:Int)<n:=by omega
   have dW:l.take k=l:=by
    have:k=l.length:=by rw[hn.out];omega
    rw[this,List.take_length]
   have yg:=hDq dW;clear dW;go_wp2;go_ret;exact⟨by rw[yg.out];rfl,HB.out⟩
def fU (w:World) (v:Value) (l:List Cv.ag):Prop :=
 (l=[]/\∃ a cap,v=.slice a 0 cap)\/∃ b off cap,v=.slice (some (Qb b off)) l.length cap/\l.length<=cap/\dR w b off l
theorem fU.later {w w':World} {v:Value} {l:List Cv.ag} (h:fU w v l) (hb:Qd w w'):fU w' v l:=by
 rcases h with h | ⟨b,off,cap,h1,h2,h3⟩
 .exact .inl h
 .exact .inr ⟨b,off,cap,h1,h2,h3.later hb⟩
theorem Cv.ach:Cv.d8 []:=⟨by simp,fun i hi=>by simp at hi⟩
theorem acI (b off cap n:Nat) (p r:Int) (w:World) (HC:Hid (∀ W,W=w.alloc (.cells #[Qa p] 3)->Calls Tryz.prog 308 #[.slice (some (Qb b off)) n cap,.func (.func 309) #[] #[Qc w.heap.size]] W fun e w'=>e=.returned (Qa r)/\Qd W w')) :
  Calls Tryz.prog 301 #[.slice (some (Qb b off)) n cap,Qa p] w fun e w'=>e=.returned (Qa r)/\Qd w w':=by
 go_enter Tryz.func301,Tryz.ntmps301
 go_wp2_with fail
 refine(HC.out _ rfl).mono ?_;rintro e w2 ⟨rfl,hb⟩;have HB:=hDq hb;clear hb;simp only[];go_wp2;go_ret;exact⟨rfl,((bRq _ _).alloc (lRq _) _).trans (HB.out.mono (by simp))⟩
theorem acJ (cap:Nat) (a:Option Addr) (p:Int) (w:World) :
  Calls Tryz.prog 301 #[.slice a 0 cap,Qa p] w fun e w'=>e=.returned (Qa 0)/\Qd w w':=by
 go_enter Tryz.func301,Tryz.ntmps301
 go_wp2_with fail
 refine(Q5 cap a _ _).mono ?_;rintro e w2 ⟨rfl,rfl⟩;simp only[];go_wp2;go_ret;exact⟨rfl,(bRq _ _).alloc (lRq _) _⟩
theorem aco (v:Value) (l:List Cv.ag) (p:Int) (T:TypeId) (v1 v6 v7:Value) (w:World) (hv:fU w v l) (he:Hid (h9 w T v1 v6 v7)) (hok:Cv.d8 l) :
  Calls Tryz.prog 301 #[v,Qa p] w fun e w'=>e=.returned (Qa (Cv.iN l p))/\Qd w w':=by
 rcases hv with ⟨rfl,a,cap,rfl⟩ | ⟨b,off,cap,rfl,hcap,hl⟩
 .exact acJ cap a p w
 .refine acI b off cap _ p _ w (fun W hW=>?_)
  subst hW;exact acE b off cap l.length w.heap.size p l T v1 v6 v7 _ rfl hcap (hl.later ((bRq _ _).alloc (lRq _) _)) (he.out.later ((bRq _ _).alloc (lRq _) _)) hok (by simp)
theorem acK (b off cap n:Nat) (p r:Int) (w:World) (HC:Hid (∀ W,W=w.alloc (.cells #[Qa p] 3)->Calls Tryz.prog 308 #[.slice (some (Qb b off)) n cap,.func (.func 310) #[] #[Qc w.heap.size]] W fun e w'=>e=.returned (Qa r)/\Qd W w')) :
  Calls Tryz.prog 302 #[.slice (some (Qb b off)) n cap,Qa p] w fun e w'=>e=.returned (Qa r)/\Qd w w':=by
 go_enter Tryz.func302,Tryz.ntmps302
 go_wp2_with fail
 refine(HC.out _ rfl).mono ?_;rintro e w2 ⟨rfl,hb⟩;have HB:=hDq hb;clear hb;simp only[];go_wp2;go_ret;exact⟨rfl,((bRq _ _).alloc (lRq _) _).trans (HB.out.mono (by simp))⟩
theorem acL (cap:Nat) (a:Option Addr) (p:Int) (w:World) :
  Calls Tryz.prog 302 #[.slice a 0 cap,Qa p] w fun e w'=>e=.returned (Qa 0)/\Qd w w':=by
 go_enter Tryz.func302,Tryz.ntmps302
 go_wp2_with fail
 refine(Q5 cap a _ _).mono ?_;rintro e w2 ⟨rfl,rfl⟩;simp only[];go_wp2;go_ret;exact⟨rfl,(bRq _ _).alloc (lRq _) _⟩
theorem acp (v:Value) (l:List Cv.ag) (p:Int) (T:TypeId) (v1 v6 v7:Value) (w:World) (hv:fU w v l) (he:Hid (h9 w T v1 v6 v7)) (hok:Cv.d8 l) :
  Calls Tryz.prog 302 #[v,Qa p] w fun e w'=>e=.returned (Qa (Cv.jQ l p))/\Qd w w':=by
 rcases hv with ⟨rfl,a,cap,rfl⟩ | ⟨b,off,cap,rfl,hcap,hl⟩
 .exact acL cap a p w
 .refine acK b off cap _ p _ w (fun W hW=>?_)
  subst hW;exact acG b off cap l.length w.heap.size p l T v1 v6 v7 _ rfl hcap (hl.later ((bRq _ _).alloc (lRq _) _)) (he.out.later ((bRq _ _).alloc (lRq _) _)) hok (by simp)
theorem fU.form {w:World} {v:Value} {l:List Cv.ag} (h:fU w v l):∃ a n cap,v=.slice a n cap:=by
 rcases h with ⟨_,a,cap,rfl⟩ | ⟨b,off,cap,rfl,_⟩
 .exact⟨_,_,_,rfl⟩
 .exact⟨_,_,_,rfl⟩
theorem acj (a:Option Addr) (n cap:Nat) (p d s:Int) (w:World)
  (hd:Hid (Calls Tryz.prog 301 #[.slice a n cap,Qa p] w fun e w'=>e=.returned (Qa d)/\Qd w w'))
  (hs:Hid (∀ w1,Qd w w1->Calls Tryz.prog 302 #[.slice a n cap,Qa p] w1 fun e w'=>e=.returned (Qa s)/\Qd w1 w')) :
  Calls Tryz.prog 286 #[.slice a n cap,Qa p] w fun e w'=>e=.returned (Qa (min d s))/\Qd w w':=by
 go_enter Tryz.func286,Tryz.ntmps286
 go_wp2_with fail
 refine hd.out.mono ?_;rintro e w1 ⟨rfl,hb1⟩;have HB1:=hDq hb1;clear hb1;simp only[]
 go_wp2_with fail
 refine(hs.out _ HB1.out).mono ?_;rintro e w2 ⟨rfl,hb2⟩;have HB2:=hDq (HB1.out.trans (hb2.mono HB1.out.size));clear hb2;simp only[];go_wp2
 all_goals go_ret
 all_goals exact⟨vL (by omega),HB2.out⟩
theorem Cv.acm (l:List Cv.ag) (p:Int) (h:Cv.d8 l):0<=Cv.iN l p/\Cv.iN l p<=120000:=by
 have:=Cv.nc (Cv.h_ p) l h.oks
 have h2:=h.1;unfold Cv.iN;omega
theorem acn (v:Value) (l:List Cv.ag) (p:Int) (T:TypeId) (v1 v6 v7:Value) (w:World) (hv:fU w v l) (he:Hid (h9 w T v1 v6 v7)) (hok:Cv.d8 l) :
  Calls Tryz.prog 286 #[v,Qa p] w fun e w'=>e=.returned (Qa (Cv.dy l p))/\Qd w w':=by
 obtain⟨a,n,cap,rfl⟩:=hv.form;exact acj a n cap p _ _ w (aco _ l p T v1 v6 v7 w hv he hok) (fun w1 hb=>acp _ l p T v1 v6 v7 w1 (hv.later hb) (he.out.later hb) hok)
def ep (x:Cv.ag):List Value:=[Qa x.id,Qa x.ak,Qa x.sd,Qa x.pr,Qa x.q]
def flat (l:List Cv.ag):List Value:=l.flatMap ep
theorem pq:∀ l:List Cv.ag,(flat l).length=l.length*5
 | []=>rfl
 | x::l=>by
  have:=pq l
  simp only[flat,List.flatMap_cons,List.length_append,List.length_cons]at this ⊢;rw[this,show (ep x).length=5 from rfl];omega
theorem QZ:∀ (l:List Cv.ag) (i j:Nat),i<l.length->j<5->(flat l)[i*5+j]?=(ep (Cv.nth l i))[j]?
 | [],i,j,h,_=>absurd h (Nat.not_lt_zero i)
 | x::l,0,j,_,hj=>by
  show (ep x++flat l)[0*5+j]?=_;rw[Nat.zero_mul,Nat.zero_add,List.getElem?_append_left (by show j<5;exact hj)];rfl
 | x::l,i+1,j,h,hj=>by
  show (ep x++flat l)[(i+1)*5+j]?=_;rw[List.getElem?_append_right (by show 5<=_;omega),show (i+1)*5+j-(ep x).length=i*5+j by show _-5=_;omega,QZ l i j (by simpa using h) hj];rfl
theorem Qp (l:List Cv.ag) (u:Value) (h:u∈flat l):u.oneCell'=true:=by
 obtain⟨x,_,hx⟩:=List.mem_flatMap.1 h;simp only[ep,List.mem_cons,List.not_mem_nil,or_false]at hx;rcases hx with rfl | rfl | rfl | rfl | rfl <;> rfl
theorem zY {w:World} {b:Nat} {l:List Cv.ag} (h:∀ j u,(flat l)[j]?=some u->w.cell? (Qb b j)=some u):dR w b 0 l:=by
 intro i hi;have key:∀ j u,j<5->(ep (Cv.nth l i))[j]?=some u->w.cell? ⟨b,i*5+j,none⟩=some u:=fun j u hj hu=>h _ u (by rw[QZ l i j hi hj];exact hu);rw[Nat.zero_add];exact⟨key 0 _ (by decide) rfl,key 1 _ (by decide) rfl,key 2 _ (by decide) rfl,key 3 _ (by decide) rfl,key 4 _ (by decide) rfl⟩
theorem DN:∃ i z,Tryz.prog.info? 197=some i/\i.zero=some z/\i.size=5/\i.bytes=40/\z.cells.size=5:=⟨_,_,rfl,rfl,rfl,rfl,rfl⟩
structure Only (w w':World) (a b:Option Nat):Prop where
 os:w'.os=w.os
 tape:w'.tape=w.tape
 output:w'.output=w.output
 size:w.heap.size<=w'.heap.size
 block:∀ k,k<w.heap.size->some k≠a->some k≠b->w'.heap[k]?=w.heap[k]?
theorem Only.refl (w:World) (a b:Option Nat):Only w w a b:=⟨rfl,rfl,rfl,lRq _,fun _ _ _ _=>rfl⟩
theorem Only.of_below {w w':World} (h:Qd w w') (a b:Option Nat):Only w w' a b:=⟨h.os,h.tape,h.output,h.size,fun k hk _ _=>h.block k hk⟩
theorem Only.iM {w w':World} {r:Option Nat} (h:w.grownBy w' r) (a:Option Nat):Only w w' a r:=⟨h.os,h.tape,h.output,h.size,fun k hk _ h2=>h.block k hk h2⟩
theorem Only.trans {w w1 w2:World} {a b b1:Option Nat} (h:Only w w1 a b) (h1:Only w1 w2 a b1) (hb:∀ k,b1=some k->b=some k\/w.heap.size<=k):Only w w2 a b :=
 ⟨h1.os.trans h.os,h1.tape.trans h.tape,h1.output.trans h.output,lTq h.size h1.size,fun k hk ha hk2=>by
  rw[h1.block k (Nat.lt_of_lt_of_le hk h.size) ha (fun e=>?_)]
  .exact h.block k hk ha hk2
  .rcases hb k e.symm with h3 | h3
   .exact hk2 h3.symm
   .omega⟩
theorem Only.below {w w':World} {a b:Option Nat} {n:Nat} (h:Only w w' a b) (hn:n<=w.heap.size) (ha:∀ k,a=some k->n<=k) (hb:∀ k,b=some k->n<=k):Below n w w' :=
 ⟨h.os,h.tape,h.output,h.size,fun k hk=>h.block k (by omega) (fun e=>by have:=ha k e.symm;omega) (fun e=>by have:=hb k e.symm;omega)⟩
theorem Only.cell {w w':World} {a b:Option Nat} (h:Only w w' a b) {p:Addr} {v:Value} (hc:w.cell? p=some v) (ha:some p.block≠a) (hb:some p.block≠b):w'.cell? p=some v :=
 (World.cell?_of_block (h.block p.block (bCq w p hc) ha hb)).trans hc
theorem Only.setCell (w:World) (g o:Nat) (v:Value) (b:Option Nat):Only w (w.setCell (Qb g o) v) (some g) b :=
 ⟨rfl,rfl,rfl,by simp,fun k _ ha _=>Below.heap_setCell _ _ _ _ (fun e=>ha (by rw[e]))⟩
theorem Only.swap {w w':World} {a b:Option Nat} (h:Only w w' a b):Only w w' b a:=⟨h.os,h.tape,h.output,h.size,fun k hk h1 h2=>h.block k hk h2 h1⟩
theorem Only.setCells (w:World) (g:Nat):∀ (vs:List Value) (o:Nat) (a:Option Nat),Only w (w.setCells g o vs) a (some g):=by
 intro vs
 induction vs generalizing w with
 | nil=>intro o a;exact Only.refl w _ _
 | cons v vs ih =>
  intro o a;exact(Only.setCell w g o v a).swap.trans (ih (w.setCell (Qb g o) v) (o+1) a) (fun k h=>.inl h)
structure df (w:World) (base p:Nat) (v:Value) (l:List Cv.ag):Prop where
 cell:w.heap[p]?=some (.cells #[v] 276 (0,0))
 lo:base<=p
 row:w.ownsRow base 197 5 v l.length (flat l)
theorem df.ne {w:World} {base p:Nat} {v:Value} {l:List Cv.ag} (h:df w base p v l):v.ownBlock≠some p:=by
 intro e;rcases h.row.2 with ⟨e1,_⟩ | ⟨r,cap,cur,e1,_,hr,_⟩
 .rw[e1]at e;cases e
 .rw[e1]at e
  have:r=p:=by simpa [Value.ownBlock] using e
  rw[this,h.cell]at hr;cases hr
theorem df.lt {w:World} {base p:Nat} {v:Value} {l:List Cv.ag} (h:df w base p v l):p<w.heap.size:=lBq h.cell
theorem df.tJ {w:World} {base p:Nat} {v:Value} {l:List Cv.ag} (h:df w base p v l):∀ k,v.ownBlock=some k->base<=k/\k<w.heap.size:=h.row.lt
theorem abC {w w':World} {a b:Option Nat} {base:Nat} {e:TypeId} {s:Nat} {v:Value} {n:Nat} {xs:List Value} (hr:w.ownsRow base e s v n xs) (h:Only w w' a b) (ha:∀ k,v.ownBlock=some k->some k≠a) (hb:∀ k,v.ownBlock=some k->some k≠b):w'.ownsRow base e s v n xs:=by
 refine⟨hr.1,?_⟩;rcases hr.2 with hn | ⟨g,cap,cur,rfl,hg,dX,rest⟩
 .exact .inl hn
 .exact .inr ⟨g,cap,cur,rfl,hg,by rw[h.block g (lBq dX) (ha g rfl) (hb g rfl)];exact dX,rest⟩
theorem df.only {w w':World} {a b:Option Nat} {base p:Nat} {v:Value} {l:List Cv.ag} (h:df w base p v l) (ho:Only w w' a b) (h1:some p≠a) (h2:some p≠b) (h3:∀ k,v.ownBlock=some k->some k≠a) (h4:∀ k,v.ownBlock=some k->some k≠b):df w' base p v l :=
 ⟨by rw[ho.block p h.lt h1 h2];exact h.cell,h.lo,abC h.row ho h3 h4⟩
theorem df.later {w w':World} {base p:Nat} {v:Value} {l:List Cv.ag} (h:df w base p v l) (hb:Qd w w'):df w' base p v l :=
 h.only (Only.of_below hb none none) (by simp) (by simp) (fun _ _=>by simp) (fun _ _=>by simp)
theorem df.form {w:World} {base p:Nat} {v:Value} {l:List Cv.ag} (h:df w base p v l):(v=.slice none 0 0/\l=[])\/∃ g cap,v=.slice (some (Qb g 0)) l.length cap/\l.length<=cap/\base<=g/\dR w g 0 l:=by
 rcases h.row.2 with ⟨e,e2⟩ | ⟨g,cap,cur,e,hg,dX,hle,_,_,_⟩
 .exact .inl ⟨e,List.eq_nil_of_length_eq_zero e2⟩
 .refine .inr ⟨g,cap,e,hle,hg,zY fun j u hu=>?_⟩
  have:=World.ownsRow.cells h.row (g:=g) (by rw[e];rfl) j u hu
  have hp:(⟨g,0,none⟩:Addr).add j=(Qb g j):=by unfold Addr.add;split <;> simp_all
  rwa [hp]at this
structure Step (w w':World) (p:Nat) (v v':Value):Prop where
 only:Only w w' (some p) v.ownBlock
 new:∀ k,v'.ownBlock=some k->v.ownBlock=some k\/w.heap.size<=k
theorem Step.of_below {w w':World} (h:Qd w w') (p:Nat) (v:Value):Step w w' p v v:=⟨Only.of_below h _ _,fun _ h=>.inl h⟩
theorem Step.trans {w w1 w2:World} {p:Nat} {v v1 v2:Value} (h:Step w w1 p v v1) (h1:Step w1 w2 p v1 v2):Step w w2 p v v2 :=
 ⟨h.only.trans h1.only h.new,fun k hk=>by
  rcases h1.new k hk with h3 | h3
  .exact h.new k h3
  .exact .inr (lTq h.only.size h3)⟩
theorem Step.below {w w':World} {base p:Nat} {v v':Value} {l:List Cv.ag} (h:Step w w' p v v') (hb:df w base p v l) (n:Nat) (hn:n<=base):Below n w w' :=
 h.only.below (by have:=hb.lo;have:=hb.lt;omega) (fun k e=>by cases e;have:=hb.lo;omega) (fun k e=>by have:=(hb.tJ k e).1;omega)
theorem Qt {e:TypeId} {fz:Nat×Nat} (g:Nat):∀ (vs:List Value) (o:Nat) (w:World) (cur:Array Value),w.heap[g]?=some (.cells cur e fz)->o+vs.length<=cur.size ->
  ∃ cur',(w.setCells g o vs).heap[g]?=some (.cells cur' e fz)/\cur'.size=cur.size/\cur'.toList=cur.toList.take o++vs++cur.toList.drop (o+vs.length)
 | [],o,w,cur,h,hs=>⟨cur,h,rfl,by simp⟩
 | v::vs,o,w,cur,h,hs=>by
  have hlt:=lBq h;have h':w.heap[g]=.cells cur e fz:=by simpa [Array.getElem?_eq_getElem hlt] using h
  have h1:(w.setCell (Qb g o) v).heap[g]?=some (.cells (cur.setIfInBounds o v) e fz):=by
   show (w.heap.modify g _)[g]?=_;rw[Array.getElem?_eq_getElem (by simpa using hlt),Array.getElem_modify_self,h'];rfl
  simp only[List.length_cons]at hs;obtain⟨cur',a1,a2,a3⟩:=Qt g vs (o+1) _ _ h1 (by simp;omega);refine⟨cur',a1,by rw[a2];simp,?_⟩;rw[a3];simp only[List.length_cons,Array.toList_setIfInBounds];have ho:o<cur.toList.length:=by simp;omega
  rw[List.take_succ_eq_append_getElem (by simpa using ho),List.take_set_of_le (lRq o),List.getElem_set_self,List.drop_set_of_lt (by omega),show o+1+vs.length=o+(vs.length+1) by omega];simp
theorem I7 {w:World} {base:Nat} {e:TypeId} {s g n cap:Nat} {xs:List Value} (h:w.ownsRow base e s (.slice (some (Qb g 0)) n cap) n xs) (o:Nat) (vs:List Value) (m:Nat) (hm:m<=cap) (hv:o+vs.length<=n*s) (ys:List Value) (hy:ys.length=m*s) (hmn:m<=n) (he:(xs.take o++vs++xs.drop (o+vs.length)).take (m*s)=ys) :
  (w.setCells g o vs).ownsRow base e s (.slice (some (Qb g 0)) m cap) m ys:=by
 rcases h.2 with ⟨e1,_⟩ | ⟨g',cap',cur,e1,hg,dX,h1,h2,h3,h4⟩
 .cases e1
 .obtain⟨rfl,rfl⟩:g=g'/\cap=cap':=by simpa using e1
  have hle:n*s<=cur.size:=by rw[h3];exact Nat.mul_le_mul_right _ h1
  obtain⟨cur',a1,a2,a3⟩:=Qt g vs o w cur dX (by omega);refine⟨hy,.inr ⟨g,cap,cur',rfl,hg,a1,hm,h2,by rw[a2,h3],?_⟩⟩;have z8:m*s<=n*s:=Nat.mul_le_mul_right _ hmn;rw[a3,<- he,<- h4];have hx:cur.toList=cur.toList.take (n*s)++cur.toList.drop (n*s):=(List.take_append_drop _ _).symm;have hl:(cur.toList.take (n*s)).length=n*s:=by rw[lKq];simp;omega
  generalize cur.toList.take (n*s)=A at *;generalize cur.toList.drop (n*s)=C at *;have e1:(A++C).take o=A.take o:=List.take_append_of_le_length (by omega);have e2:(A++C).drop (o+vs.length)=A.drop (o+vs.length)++C:=List.drop_append_of_le_length (by omega);rw[hx,e1,e2,<- aAq];exact List.take_append_of_le_length (by simp only[List.length_append,List.length_take,List.length_drop];omega)
namespace Bk
open Cv
def vS (l:List ag) (id:Int):Int:=if has l id=true then (pos l id:Int) else -1
theorem zT {l:List ag} {id:Int} (h:has l id=false):vS l id = -1:=by unfold vS;rw[h];rfl
theorem zU {l:List ag} {id:Int} (h:has l id=true):vS l id=(pos l id:Nat):=by unfold vS;rw[if_pos h]
theorem aby {l:List ag} {id:Int} {k:Nat} (hk:k<l.length) (hn:has (l.take k) id=false) (hx:(nth l k).id=id):vS l id=(k:Nat):=by
 have h1:has l id=true:=List.any_eq_true.2 ⟨nth l k,mY hk,by simpa using hx⟩;rw[zU h1];have h2:pos l id=k:=by
  unfold pos;rw[List.findIdx_eq hk];refine⟨by rw[<- vQ hk];simpa using hx,fun j hj=>?_⟩
  have:=List.any_eq_false.1 hn l[j] (by rw[List.mem_take_iff_getElem];exact⟨j,by omega,rfl⟩)
  simpa using this
 rw[h2]
theorem I6 {l:List ag} {id:Int} (h:has l id=true):pos l id<l.length:=px.1 h
end Bk
theorem abz (x:Cv.ag) (B:Nat) (id:Int) (w:World) (hc:w.cell? (Qb B 0)=some (Qa id)) :
  Calls Tryz.prog 266 #[bU x,Qc B] w fun e w'=>e=.returned (.bool (x.id==id))/\Qd w w':=by
 have hB:B<w.heap.size:=bCq _ _ hc;have hne:B≠w.heap.size:=by omega
 show Calls Tryz.prog 266 #[.agg #[Qa x.id,Qa x.ak,Qa x.sd,Qa x.pr,Qa x.q],Qc B] w _;go_enter Tryz.func266,Tryz.ntmps266;go_wp2
 all_goals go_ret
 all_goals
  refine⟨iy ?_,(bRq _ _).alloc (lRq _) _⟩
  first | rfl | simp_all
theorem abA (b off cap B:Nat) (id:Int) (l:List Cv.ag) (w:World) (hn':l.length<=1000) (hl:Hid (dR w b off l)) (hc:w.cell? (Qb B 0)=some (Qa id)) :
  Calls Tryz.prog 265 #[.slice (some (Qb b off)) l.length cap,.func (.func 266) #[] #[Qc B]] w fun e w'=>e=.returned (Qa (Bk.vS l id))/\Qd w w':=by
 generalize hn:l.length=n at *;have Hn:=hDq hn;clear hn;go_enter Tryz.func265,Tryz.ntmps265;go_wp2
 go_loopw [8] (fun i wr=>∃ k:Nat,k<=n/\i=Qa k/\Cv.has (l.take k) id=false/\Qd w wr) (fun i _=>n-(intOf i).toNat)
 case atStart=>exact⟨0,Nat.zero_le _,rfl,rfl,bRq _ _⟩
 case round =>
  obtain⟨k,hk,rfl,hno,hb⟩:=hrel;have HN:=hDq hno;have HB:=hDq hb;clear hno hb;by_cases hlt:k<n
  .have aX:(k:Int)<n:=by omega
   obtain⟨c0,c1,c2,c3,c4⟩:=(hl.out.later HB.out) k (by rw[Hn.out];exact hlt);have hcB:=cell_later HB.out hc;have HC:=hDq (abz (Cv.nth l k) B id wr hcB);have HT:=hDq (Cv.take_succ (l:=l) (i:=k) (by rw[Hn.out];exact hlt));obtain⟨x,rQ⟩:∃ x,Cv.nth l k=x:=⟨_,rfl⟩;rw[rQ]at HC HT c0 c1 c2 c3 c4;have HX:=hDq rQ;clear rQ
   go_wp2_with fail
   refine HC.out.mono ?_;rintro e w2 ⟨rfl,hb2⟩;have HB2:=hDq (HB.out.trans (hb2.mono HB.out.size));clear hb2 c0 c1 c2 c3 c4 hcB HC;by_cases hx:x.id=id
   .have mb:(x.id==id)=true:=by simpa using hx
    have Hx:=hDq hx;clear hx;rw[mb];simp only[];go_wp2;go_ret;refine⟨?_,HB2.out⟩;rw[Bk.aby (by rw[Hn.out];exact hlt) HN.out (by rw[HX.out];exact Hx.out)];rfl
   .have mb:(x.id==id)=false:=by simpa using hx
    have z7:Cv.has (l.take (k+1)) id=false:=by
     have hh:=HN.out;rw[HT.out];unfold Cv.has at hh ⊢;rw[List.any_append,hh];simp[hx]
    have py:=hDq z7;clear hx z7;rw[mb];simp only[];go_wp2;exact⟨⟨k+1,by omega,by go_num,py.out,HB2.out⟩,by simp[intOf];omega⟩
  .have aX:¬ (k:Int)<n:=by omega
   have dW:k=l.length:=by rw[Hn.out];omega
   have hno:=HN.out;rw[dW,List.take_length]at hno;have py:=hDq hno;clear hno dW;go_wp2;go_ret;exact⟨by rw[Bk.zT py.out];rfl,HB.out⟩
theorem DF (p base:Nat) (v:Value) (id:Int) (l:List Cv.ag) (w:World) (hb:Hid (df w base p v l)) (hn:Hid (l.length<=60)) :
  Calls Tryz.prog 224 #[Qc p,Qa id] w fun e w'=>e=.returned (Qa (Bk.vS l id))/\Qd w w':=by
 have hcell:(w.alloc (.cells #[Qa id] 3)).cell? (Qb p 0)=some v:=cell_later ((bRq _ _).alloc (lRq _) _) (cell_of_one hb.out.cell);rcases hb.out.form with ⟨rfl,hl⟩ | ⟨g,cap,rfl,hle,_,hl⟩
 .have HL:=hDq hl
  clear hl;go_enter Tryz.func224,Tryz.ntmps224
  go_wp2_with fail
  refine(abB 0 none _ _).mono ?_;rintro e w2 ⟨rfl,rfl⟩;simp only[];go_wp2;go_ret;exact⟨by rw[HL.out];rfl,(bRq _ _).alloc (lRq _) _⟩
 .have HC:=hDq (abA g 0 cap w.heap.size id l (w.alloc (.cells #[Qa id] 3)) (by have:=hn.out;omega) (hl.later ((bRq _ _).alloc (lRq _) _)) (by simp))
  clear hl hle;go_enter Tryz.func224,Tryz.ntmps224
  go_wp2_with fail
  refine HC.out.mono ?_;rintro e w2 ⟨rfl,hb2⟩;have HB:=hDq hb2;clear hb2;simp only[];go_wp2;go_ret;exact⟨rfl,((bRq _ _).alloc (lRq _) _).trans (HB.out.mono (by simp))⟩
theorem Jc (w:World):Calls Tryz.prog 162 #[] w fun e w'=>e=.returned (Qc w.heap.size)/\w'=w.alloc (.cells #[.slice none 0 0] 276):=by
 go_enter Tryz.func162,Tryz.ntmps162;go_wp2;go_ret;exact⟨rfl,rfl⟩
theorem I9 (v:Value) (l:List Cv.ag) (T:TypeId) (v1 v6 v7:Value) (w:World) (hv:fU w v l) (he:Hid (h9 w T v1 v6 v7)) (hok:Cv.d8 l) :
  Calls Tryz.prog 250 #[v] w fun e w'=>e=.returned .nilIface/\Qd w w':=by
 rcases hv with ⟨rfl,a,cap,rfl⟩ | ⟨b,off,cap,rfl,hcap,hl⟩
 .refine(QT cap a w).mono ?_
  rintro e w' ⟨rfl,rfl⟩;exact⟨rfl,bRq _ _⟩
 .exact QU b off cap _ l T v1 v6 v7 w rfl hcap hl he hok
theorem abm (v:Value) (l:List Cv.ag) (T:TypeId) (v1 v6 v7:Value) (w:World) (hv:fU w v l) (he:Hid (h9 w T v1 v6 v7)) (ye:¬ Cv.d8 l) :
  Calls Tryz.prog 250 #[v] w fun e w'=>(∃ U x,e=.returned (.iface U x))/\Qd w w':=by
 rcases hv with ⟨rfl,a,cap,rfl⟩ | ⟨b,off,cap,rfl,hcap,hl⟩
 .exact absurd Cv.ach ye
 .exact aci b off cap _ l T v1 v6 v7 w rfl hcap hl he ye
theorem fU.take {w:World} {b off cap:Nat} {l:List Cv.ag} (h:dR w b off l) (hn:l.length<=cap) (k:Nat) (hk:k<=l.length):fU w (.slice (some (Qb b off)) k cap) (l.take k):=by
 have e:(l.take k).length=k:=by rw[lKq];omega
 exact .inr ⟨b,off,cap,by rw[e],by rw[e];omega,h.take k⟩
theorem fU.drop {w:World} {b off cap:Nat} {l:List Cv.ag} (h:dR w b off l) (hn:l.length<=cap) (k:Nat) (hk:k<=l.length):fU w (.slice (some ⟨b,off+k*5,none⟩) (l.length-k) (cap-k)) (l.drop k):=by
 exact .inr ⟨b,off+k*5,cap-k,by rw[List.length_drop],by rw[List.length_drop];omega,h.drop k⟩
theorem abb (a b:Int) (w:World) (h1:-1000000<=a) (h2:a<=1000000) (h3:-1000000<=b) (h4:b<=1000000):Calls Tryz.prog 253 #[Qa a,Qa b] w fun e w'=>e=.returned (Qa (Cv.size (a-b)))/\w'=w:=by
 go_enter Tryz.func253,Tryz.ntmps253;go_wp2
 all_goals go_ret
 all_goals exact⟨vL (by unfold Cv.size;omega),rfl⟩
theorem AAB (n:Int) (w:World):Calls Tryz.prog 285 #[Qa n] w fun e w'=>e=.returned (.bool (ah.aG n 1 1000))/\w'=w:=by
 go_enter Tryz.func285,Tryz.ntmps285
 go_wp2_with (go_at_call 160;refine(gH _ _ _ _).mono ?_;rintro e w' ⟨rfl,rfl⟩)
 go_ret;exact⟨rfl,rfl⟩
structure mW (w:World) (T:TypeId) (v1:Value):Prop where
 c1:w.cell? (Qb 1 0)=some (.iface T v1)
theorem mW.later {w w':World} {T:TypeId} {v1:Value} (h:mW w T v1) (hb:Qd w w'):mW w' T v1:=⟨cell_later hb h.c1⟩
def dP (r l:Int):Value:=.agg #[Qa r,Qa l]
def lz (T:TypeId) (v:Value) (b:Bool):Value:=if b=true then .nilIface else .iface T v
theorem aa8 (r l:Int) (T:TypeId) (v1:Value) (w:World) (he:Hid (mW w T v1)) :
  Calls Tryz.prog 284 #[dP r l] w fun e w'=>e=.returned (lz T v1 (aZ.jv r l))/\Qd w w':=by
 show Calls Tryz.prog 284 #[.agg #[Qa r,Qa l]] w _;have hb0:Qd w (w.alloc (.cells #[Qa r,Qa l] 192)):=(bRq _ _).alloc (lRq _) _;have e1:=(he.out.later hb0).c1;have HB:=hDq hb0;clear hb0;go_enter Tryz.func284,Tryz.ntmps284;cases h1:ah.aG r 1 1000 <;> cases h2:ah.aG l 0 1000
 all_goals
  go_wp2_with (first | (go_at_call 285;refine(AAB _ _).mono ?_;rintro e w' ⟨rfl,rfl⟩;rw[h1]) | (go_at_call 160;refine(gH _ _ _ _).mono ?_;rintro e w' ⟨rfl,rfl⟩;rw[h2]))
  all_goals go_ret
  all_goals exact⟨by simp[lz,aZ.jv,h1,h2],HB.out⟩
theorem AAA (r l:Int) (T:TypeId) (v1:Value) (w:World) (he:Hid (mW w T v1)) :
  Calls Tryz.prog 159 #[dP r l] w fun e w'=>e=.returned (lz T v1 (aZ.iW r l))/\Qd w w':=by
 show Calls Tryz.prog 159 #[.agg #[Qa r,Qa l]] w _;have hb0:Qd w (w.alloc (.cells #[Qa r,Qa l] 43)):=(bRq _ _).alloc (lRq _) _;have e1:=(he.out.later hb0).c1;have HB:=hDq hb0;clear hb0;go_enter Tryz.func159,Tryz.ntmps159;cases h1:ah.aG r 0 100 <;> cases h2:ah.aG l 1 1000
 all_goals
  go_wp2_with (go_at_call 160;refine(gH _ _ _ _).mono ?_;rintro e w' ⟨rfl,rfl⟩;first | rw[h1] | rw[h2])
  all_goals go_ret
  all_goals exact⟨by simp[lz,aZ.iW,h1,h2],HB.out⟩
theorem aba (wd h r p:Int) (w:World) (h1:1<=r) (h2:r<=1000) (h3:0<=wd) (h4:wd<=100) (h5:1<=p) (h6:p<=1000) :
  Calls Tryz.prog 257 #[dP wd h,Qa r,Qa p] w fun e w'=>e=.returned (.bool (aZ.vJ wd r p))/\Qd w w':=by
 show Calls Tryz.prog 257 #[.agg #[Qa wd,Qa h],Qa r,Qa p] w _;have HB:Hid (Qd w (w.alloc (.cells #[Qa wd,Qa h] 43))):=(bRq _ _).alloc (lRq _) _;have hp:=aa7 h1 h2 h3 h4;have w1:IntKind.i64.wrap (r*wd)=r*wd:=IntWalk.i64_in _ (by omega);have hs:0<=Cv.size (p-r)/\Cv.size (p-r)<=1000:=by unfold Cv.size;omega
 have w2:IntKind.i64.wrap (Cv.size (p-r)*100)=Cv.size (p-r)*100:=IntWalk.i64_in _ (by omega);have n1:¬ wd < -1:=by omega
 have n2:¬ 100000<wd:=by omega
 go_enter Tryz.func257,Tryz.ntmps257
 go_wp2_with (go_at_call 253;refine(abb _ _ _ (by omega) (by omega) (by omega) (by omega)).mono ?_;rintro e w' ⟨rfl,rfl⟩)
 all_goals go_ret
 all_goals first | exact⟨rfl,HB.out⟩ | exact⟨iy (by simp[aZ.vJ]),HB.out⟩
theorem P_ (r l wd h p v:Int) (T:TypeId) (v1:Value) (w:World) (he:Hid (mW w T v1)) :
  Calls Tryz.prog 255 #[dP r l,dP wd h,Qa p,Qa v] w fun e w'=>e=.returned (lz T v1 (aZ.jv r l&&(aZ.iW wd h&&aZ.mV p v)))/\Qd w w':=by
 show Calls Tryz.prog 255 #[.agg #[Qa r,Qa l],.agg #[Qa wd,Qa h],Qa p,Qa v] w _;obtain⟨W,fT⟩:∃ W,(w.alloc (.cells #[Qa r,Qa l] 192)).alloc (.cells #[Qa wd,Qa h] 43)=W:=⟨_,rfl⟩;have hb1:Qd w (w.alloc (.cells #[Qa r,Qa l] 192)):=(bRq _ _).alloc (lRq _) _;have hb2:Qd w W:=by rw[<- fT];exact hb1.alloc hb1.size _
 have l9:W.heap[w.heap.size+1]?=some (.cells #[Qa wd,Qa h] 43 (0,0)):=by
  rw[<- fT]
  have:=hNq (w.alloc (.cells #[Qa r,Qa l] 192)) (.cells #[Qa wd,Qa h] 43)
  rw[show (w.alloc (.cells #[Qa r,Qa l] 192)).heap.size=w.heap.size+1 by simp]at this;exact this
 have hZ:=hDq l9;have cw:=hDq hb2;have HC:=hDq (aa8 r l T v1 W (he.out.later hb2));unfold dP at HC;have iX:=hDq fT;clear hb1 hb2 l9 fT;go_enter Tryz.func255,Tryz.ntmps255
 go_wp2_with fail
 rw[iX.out];clear iX;refine HC.out.mono ?_;rintro e w2 ⟨rfl,hb2⟩;have HB:Hid (Qd w w2):=cw.out.trans (hb2.mono cw.out.size);have hY:w2.heap[w.heap.size+1]?=some (.cells #[Qa wd,Qa h] 43 (0,0)):=by rw[hb2.block _ (Array.getElem?_eq_some_iff.1 hZ.out).1];exact hZ.out
 have y0:w2.cell? ⟨w.heap.size+1,0,none⟩=some (Qa wd):=by rw[cR w2 _ 0 _ _ _ hY];rfl
 have y1:w2.cell? ⟨w.heap.size+1,1,none⟩=some (Qa h):=by rw[cR w2 _ 1 _ _ _ hY];rfl
 clear hb2 HC cw hZ hY;cases hb:aZ.jv r l with
 | false =>
  have Hb:=hDq hb;clear hb;simp only[lz,if_neg Bool.false_ne_true];go_wp2;go_ret;exact⟨by rw[Hb.out];rfl,HB.out⟩
 | true =>
  have Hb:=hDq hb;clear hb;have HC:=hDq (AAA wd h T v1 w2 (he.out.later HB.out));unfold dP at HC;simp only[lz,if_pos]
  go_wp2_with fail
  refine HC.out.mono ?_;rintro e w3 ⟨rfl,hb3⟩;have au:Hid (Qd w w3):=HB.out.trans (hb3.mono HB.out.size);clear hb3 HC HB y0 y1;cases hr:aZ.iW wd h with
  | false =>
   have vK:=hDq hr;clear hr;simp only[lz,if_neg Bool.false_ne_true];go_wp2;go_ret;exact⟨by rw[Hb.out,vK.out];rfl,au.out⟩
  | true =>
   have vK:=hDq hr;clear hr;have e1:=(he.out.later au.out).c1;simp only[lz,if_pos];by_cases hv:v<0
   .have iY:decide (v<0)=true:=by simpa using hv
    go_wp2_with fail
    all_goals go_ret
    all_goals exact⟨by rw[Hb.out,vK.out];simp[lz,aZ.mV,iY],au.out⟩
   .have iY:decide (v<0)=false:=by simpa using hv
    by_cases hp:0<v
    .have I5:decide (0<v)=true:=by simpa using hp
     cases hw:ah.aG p 1 1000
     all_goals
      go_wp2_with (go_at_call 285;refine(AAB _ _).mono ?_;rintro e w' ⟨rfl,rfl⟩;rw[hw])
      all_goals go_ret
      all_goals exact⟨by rw[Hb.out,vK.out];simp[lz,aZ.mV,iY,I5,hw],au.out⟩
    .have I5:decide (0<v)=false:=by simpa using hp
     go_wp2_with fail
     all_goals go_ret
     all_goals exact⟨by rw[Hb.out,vK.out];simp[lz,aZ.mV,iY,I5],au.out⟩
theorem aa9 (r l p:Int) (t:Bool) (w:World) (h1:0<l) (h2:l<=1000) :
  Calls Tryz.prog 256 #[dP r l,Qa p,.bool t] w fun e w'=>e=.returned (dP (if l=1/\t=true then p else r) (l-1))/\Qd w w':=by
 show Calls Tryz.prog 256 #[.agg #[Qa r,Qa l],Qa p,.bool t] w _;have wl:IntKind.i64.wrap (l-1)=l-1:=IntWalk.i64_in _ (by omega);have HA:Hid (∀ x y,Qd w ((w.alloc x).alloc y)):=fun x y=>((bRq _ _).alloc (lRq _) x).alloc (by simp) y;by_cases hl:l=1
 .subst hl
  cases t
  .go_enter Tryz.func256,Tryz.ntmps256
   go_wp2;exact bodyPost_ret (v:=dP r 0) (by simp[results,Tryz.results256,go_sem,dP]) rfl ⟨rfl,HA.out _ _⟩
  .go_enter Tryz.func256,Tryz.ntmps256
   go_wp2;exact bodyPost_ret (v:=dP p 0) (by simp[results,Tryz.results256,go_sem,dP]) rfl ⟨rfl,HA.out _ _⟩
 .have hl':¬ l-1=0:=by omega
  go_enter Tryz.func256,Tryz.ntmps256;go_wp2;exact bodyPost_ret (v:=dP r (l-1)) (by simp[results,Tryz.results256,go_sem,dP]) rfl ⟨rfl,HA.out _ _⟩
def pg (r l wd h p v:Int):Value:=.tuple #[dP (aZ.oc r l wd p v) (aZ.od r l wd h p v),.bool (aZ.og r l wd p v),.nilIface]
theorem anQ (r l wd h p v:Int) (T:TypeId) (v1:Value) (w:World) (he:Hid (mW w T v1)) (hk:(aZ.jv r l&&(aZ.iW wd h&&aZ.mV p v))=false) :
  Calls Tryz.prog 221 #[dP r l,dP wd h,Qa p,Qa v] w fun e w'=>e=.returned (.tuple #[dP 0 0,.bool false,.iface T v1])/\Qd w w':=by
 obtain⟨W,fT⟩:∃ W,((w.alloc (.cells #[Qa r,Qa l] 192)).alloc (.cells #[Qa wd,Qa h] 43)).alloc (.cells #[Qa 0,Qa 0] 192)=W:=⟨_,rfl⟩;have hb2:Qd w W:=by rw[<- fT];exact(((bRq _ _).alloc (lRq _) _).alloc (by simp) _).alloc (by simp;omega) _
 have l9:W.heap[w.heap.size+1+1]?=some (.cells #[Qa 0,Qa 0] 192 (0,0)):=by
  rw[<- fT]
  have:=hNq ((w.alloc (.cells #[Qa r,Qa l] 192)).alloc (.cells #[Qa wd,Qa h] 43)) (.cells #[Qa 0,Qa 0] 192)
  rw[show ((w.alloc (.cells #[Qa r,Qa l] 192)).alloc (.cells #[Qa wd,Qa h] 43)).heap.size=w.heap.size+1+1 by simp]at this;exact this
 have HC:=hDq (P_ r l wd h p v T v1 W (he.out.later hb2));rw[hk]at HC;unfold dP at HC ⊢;have hZ:=hDq l9;have cw:=hDq hb2;have iX:=hDq fT;clear hb2 l9 fT hk;go_enter Tryz.func221,Tryz.ntmps221
 go_wp2_with fail
 rw[iX.out];clear iX;refine HC.out.mono ?_;rintro e w2 ⟨rfl,hb2⟩;have HB:Hid (Qd w w2):=cw.out.trans (hb2.mono cw.out.size);have hY:w2.heap[w.heap.size+1+1]?=some (.cells #[Qa 0,Qa 0] 192 (0,0)):=by rw[hb2.block _ (Array.getElem?_eq_some_iff.1 hZ.out).1];exact hZ.out
 have y0:w2.cell? ⟨w.heap.size+1+1,0,none⟩=some (Qa 0):=by rw[cR w2 _ 0 _ _ _ hY];rfl
 have y1:w2.cell? ⟨w.heap.size+1+1,1,none⟩=some (Qa 0):=by rw[cR w2 _ 1 _ _ _ hY];rfl
 have z0:w2.frozen? ⟨w.heap.size+1+1,0,none⟩=false:=by simp[World.frozen?,hY]
 have dw:w2.frozen? ⟨w.heap.size+1+1,1,none⟩=false:=by simp[World.frozen?,hY]
 clear hb2 HC cw hZ hY;simp only[lz,if_neg Bool.false_ne_true];go_wp2;exact bodyPost_ret (v:=.tuple #[.agg #[Qa 0,Qa 0],.bool false,.iface T v1]) (by simp[results,Tryz.results221,go_sem,y0,y1]) rfl ⟨rfl,(HB.out.setCell (by simp;omega) _).setCell (by simp;omega) _⟩
theorem AAC (r l wd h p v:Int) (T:TypeId) (v1:Value) (w:World) (he:Hid (mW w T v1)) (hk:(aZ.jv r l&&(aZ.iW wd h&&aZ.mV p v))=true) :
  Calls Tryz.prog 221 #[dP r l,dP wd h,Qa p,Qa v] w fun e w'=>e=.returned (pg r l wd h p v)/\Qd w w':=by
 obtain⟨W,fT⟩:∃ W,((w.alloc (.cells #[Qa r,Qa l] 192)).alloc (.cells #[Qa wd,Qa h] 43)).alloc (.cells #[Qa 0,Qa 0] 192)=W:=⟨_,rfl⟩;have hb2:Qd w W:=by rw[<- fT];exact(((bRq _ _).alloc (lRq _) _).alloc (by simp) _).alloc (by simp;omega) _
 have pn:W.heap[w.heap.size]?=some (.cells #[Qa r,Qa l] 192 (0,0)):=by
  rw[<- fT];exact(Below.heap_alloc _ _ _ (by simp;omega)).trans ((Below.heap_alloc _ _ _ (by simp)).trans (hNq _ _))
 have AAD:W.heap[w.heap.size+1]?=some (.cells #[Qa wd,Qa h] 43 (0,0)):=by
  rw[<- fT];refine(Below.heap_alloc _ _ _ (by simp)).trans ?_
  have:=hNq (w.alloc (.cells #[Qa r,Qa l] 192)) (.cells #[Qa wd,Qa h] 43)
  rw[show (w.alloc (.cells #[Qa r,Qa l] 192)).heap.size=w.heap.size+1 by simp]at this;exact this
 have l9:W.heap[w.heap.size+1+1]?=some (.cells #[Qa 0,Qa 0] 192 (0,0)):=by
  rw[<- fT]
  have:=hNq ((w.alloc (.cells #[Qa r,Qa l] 192)).alloc (.cells #[Qa wd,Qa h] 43)) (.cells #[Qa 0,Qa 0] 192)
  rw[show ((w.alloc (.cells #[Qa r,Qa l] 192)).alloc (.cells #[Qa wd,Qa h] 43)).heap.size=w.heap.size+1+1 by simp]at this;exact this
 have HC:=hDq (P_ r l wd h p v T v1 W (he.out.later hb2));rw[hk]at HC;have hk':((1<=r/\r<=1000)/\0<=l/\l<=1000)/\((0<=wd/\wd<=100)/\1<=h/\h<=1000)/\0<=v/\(v<=0\/1<=p/\p<=1000):=by
  simpa [aZ.jv,aZ.iW,aZ.mV,ah.aG] using hk
 obtain⟨⟨⟨r1,r2⟩,l1,l2⟩,⟨⟨lA,wd2⟩,h1,h2⟩,anR,anS⟩:=hk';unfold dP at HC ⊢;have HX0:=hDq pn;have xU:=hDq AAD;have hZ:=hDq l9;have cw:=hDq hb2;have iX:=hDq fT;clear hb2 pn AAD l9 fT hk;go_enter Tryz.func221,Tryz.ntmps221
 go_wp2_with fail
 rw[iX.out];clear iX;refine HC.out.mono ?_;rintro e w2 ⟨rfl,hb2⟩;have HB:Hid (Qd w w2):=cw.out.trans (hb2.mono cw.out.size);have hX:w2.heap[w.heap.size]?=some (.cells #[Qa r,Qa l] 192 (0,0)):=by rw[hb2.block _ (Array.getElem?_eq_some_iff.1 HX0.out).1];exact HX0.out
 have hU:w2.heap[w.heap.size+1]?=some (.cells #[Qa wd,Qa h] 43 (0,0)):=by rw[hb2.block _ (Array.getElem?_eq_some_iff.1 xU.out).1];exact xU.out
 have hY:w2.heap[w.heap.size+1+1]?=some (.cells #[Qa 0,Qa 0] 192 (0,0)):=by rw[hb2.block _ (Array.getElem?_eq_some_iff.1 hZ.out).1];exact hZ.out
 have HX:=hDq hX;have HU:=hDq hU;have eo:=hDq hY;clear hb2 HC cw HX0 xU hZ hX hU hY;obtain⟨B,hB⟩:∃ B,w.heap.size=B:=⟨_,rfl⟩;rw[hB]at HX HU eo ⊢;have lB:=hDq hB;clear hB;have x0:w2.cell? (Qb B 0)=some (Qa r):=by rw[cR w2 _ 0 _ _ _ HX.out];rfl
 have x1:w2.cell? (Qb B 1)=some (Qa l):=by rw[cR w2 _ 1 _ _ _ HX.out];rfl
 have u0:w2.cell? ⟨B+1,0,none⟩=some (Qa wd):=by rw[cR w2 _ 0 _ _ _ HU.out];rfl
 have u1:w2.cell? ⟨B+1,1,none⟩=some (Qa h):=by rw[cR w2 _ 1 _ _ _ HU.out];rfl
 simp only[lz,if_pos];have dx:Hid (∀ W:World,Qd w W->∀ (q1 q2:Addr) (x1 x2:Value),B<=q1.block->B<=q2.block->Qd w ((W.setCell q1 x1).setCell q2 x2)):=fun W hb q1 q2 x1 x2 g1 g2 =>
  (hb.setCell (by rw[lB.out];exact g1) _).setCell (by rw[lB.out];exact g2) _
 by_cases hl:0<l
 .have HG:=hDq (fun W=>aa9 r l p (decide (0<v)) W hl l2)
  unfold dP at HG;have po:pg r l wd h p v=.tuple #[.agg #[Qa (if l=1/\decide (0<v)=true then p else r),Qa (l-1)],.bool false,.nilIface]:=by
   simp[pg,dP,aZ.oc,aZ.od,aZ.og,hl]
  have rJ:=hDq po;clear po;generalize (if l=1/\decide (0<v)=true then p else r)=nr at HG rJ;have HN:=rJ;by_cases hv:0<v
  all_goals
   first | (have iY:decide (0<v)=true:=(by simpa using hv);rw[iY]at HG) | (have iY:decide (0<v)=false:=(by simpa using hv);rw[iY]at HG)
   go_wp2_with fail
   refine(HG.out _).mono ?_;rintro e w3 ⟨rfl,hb3⟩;have au:Hid (Qd w w3):=HB.out.trans (hb3.mono HB.out.size);have hY:w3.heap[B+1+1]?=some (.cells #[Qa 0,Qa 0] 192 (0,0)):=by rw[hb3.block _ (Array.getElem?_eq_some_iff.1 eo.out).1];exact eo.out
   have y0:w3.cell? ⟨B+1+1,0,none⟩=some (Qa 0):=by rw[cR w3 _ 0 _ _ _ hY];rfl
   have y1:w3.cell? ⟨B+1+1,1,none⟩=some (Qa 0):=by rw[cR w3 _ 1 _ _ _ hY];rfl
   have z0:w3.frozen? ⟨B+1+1,0,none⟩=false:=by simp[World.frozen?,hY]
   have dw:w3.frozen? ⟨B+1+1,1,none⟩=false:=by simp[World.frozen?,hY]
   clear hb3 HG x0 x1 u0 u1 hY HX HU eo HB;simp only[];go_wp2;exact bodyPost_ret (v:=.tuple #[.agg #[Qa nr,Qa (l-1)],.bool false,.nilIface]) (by simp[results,Tryz.results221,go_sem,y0,y1]) rfl ⟨by rw[rJ.out],dx.out _ au.out _ _ _ _ (by simp;omega) (by simp;omega)⟩
 .obtain rfl:l=0:=by omega
  have lC:w2.cell? ⟨B+1+1,0,none⟩=some (Qa 0):=by rw[cR w2 _ 0 _ _ _ eo.out];rfl
  by_cases hv:0<v
  .have iY:decide (0<v)=true:=by simpa using hv
   have hp:1<=p/\p<=1000:=by omega
   have HG:=hDq (fun W=>aba wd h r p W r1 r2 lA wd2 hp.1 hp.2);unfold dP at HG;cases hin:aZ.vJ wd r p with
   | false =>
    have po:pg r 0 wd h p v=.tuple #[.agg #[Qa r,Qa h],.bool false,.nilIface]:=by
     simp[pg,dP,aZ.oc,aZ.od,aZ.og,hin,hv]
    have rJ:=hDq po;rw[hin]at HG;clear po hin
    go_wp2_with fail
    refine(HG.out _).mono ?_;rintro e w3 ⟨rfl,hb3⟩;have au:Hid (Qd w w3):=HB.out.trans (hb3.mono HB.out.size);have hX:w3.heap[B]?=some (.cells #[Qa r,Qa 0] 192 (0,0)):=by rw[hb3.block _ (Array.getElem?_eq_some_iff.1 HX.out).1];exact HX.out
    have hU:w3.heap[B+1]?=some (.cells #[Qa wd,Qa h] 43 (0,0)):=by rw[hb3.block _ (Array.getElem?_eq_some_iff.1 HU.out).1];exact HU.out
    have hY:w3.heap[B+1+1]?=some (.cells #[Qa 0,Qa 0] 192 (0,0)):=by rw[hb3.block _ (Array.getElem?_eq_some_iff.1 eo.out).1];exact eo.out
    clear x0 x1 u0 u1 lC;have x0:w3.cell? (Qb B 0)=some (Qa r):=by rw[cR w3 _ 0 _ _ _ hX];rfl
    have x1:w3.cell? (Qb B 1)=some (Qa 0):=by rw[cR w3 _ 1 _ _ _ hX];rfl
    have u1:w3.cell? ⟨B+1,1,none⟩=some (Qa h):=by rw[cR w3 _ 1 _ _ _ hU];rfl
    have y0:w3.cell? ⟨B+1+1,0,none⟩=some (Qa 0):=by rw[cR w3 _ 0 _ _ _ hY];rfl
    have y1:w3.cell? ⟨B+1+1,1,none⟩=some (Qa 0):=by rw[cR w3 _ 1 _ _ _ hY];rfl
    have z0:w3.frozen? ⟨B+1+1,0,none⟩=false:=by simp[World.frozen?,hY]
    have dw:w3.frozen? ⟨B+1+1,1,none⟩=false:=by simp[World.frozen?,hY]
    have f0:w3.frozen? (Qb B 0)=false:=by simp[World.frozen?,hX]
    have f1:w3.frozen? (Qb B 1)=false:=by simp[World.frozen?,hX]
    clear hb3 HG hX hU hY HX HU eo HB;simp only[];go_wp2;exact bodyPost_ret (v:=.tuple #[.agg #[Qa r,Qa h],.bool false,.nilIface]) (by simp[results,Tryz.results221,go_sem,y0,y1]) rfl ⟨by rw[rJ.out],dx.out _ (au.out.setCell (by rw[lB.out];exact lRq _) _) _ _ _ _ (by simp;omega) (by simp;omega)⟩
   | true =>
    have po:pg r 0 wd h p v=.tuple #[.agg #[Qa p,Qa 0],.bool true,.nilIface]:=by
     simp[pg,dP,aZ.oc,aZ.od,aZ.og,hin,hv]
    have rJ:=hDq po;rw[hin]at HG;clear po hin
    go_wp2_with fail
    refine(HG.out _).mono ?_;rintro e w3 ⟨rfl,hb3⟩;have au:Hid (Qd w w3):=HB.out.trans (hb3.mono HB.out.size);have hX:w3.heap[B]?=some (.cells #[Qa r,Qa 0] 192 (0,0)):=by rw[hb3.block _ (Array.getElem?_eq_some_iff.1 HX.out).1];exact HX.out
    have hU:w3.heap[B+1]?=some (.cells #[Qa wd,Qa h] 43 (0,0)):=by rw[hb3.block _ (Array.getElem?_eq_some_iff.1 HU.out).1];exact HU.out
    have hY:w3.heap[B+1+1]?=some (.cells #[Qa 0,Qa 0] 192 (0,0)):=by rw[hb3.block _ (Array.getElem?_eq_some_iff.1 eo.out).1];exact eo.out
    clear x0 x1 u0 u1 lC;have x0:w3.cell? (Qb B 0)=some (Qa r):=by rw[cR w3 _ 0 _ _ _ hX];rfl
    have x1:w3.cell? (Qb B 1)=some (Qa 0):=by rw[cR w3 _ 1 _ _ _ hX];rfl
    have u1:w3.cell? ⟨B+1,1,none⟩=some (Qa h):=by rw[cR w3 _ 1 _ _ _ hU];rfl
    have y0:w3.cell? ⟨B+1+1,0,none⟩=some (Qa 0):=by rw[cR w3 _ 0 _ _ _ hY];rfl
    have y1:w3.cell? ⟨B+1+1,1,none⟩=some (Qa 0):=by rw[cR w3 _ 1 _ _ _ hY];rfl
    have z0:w3.frozen? ⟨B+1+1,0,none⟩=false:=by simp[World.frozen?,hY]
    have dw:w3.frozen? ⟨B+1+1,1,none⟩=false:=by simp[World.frozen?,hY]
    have f0:w3.frozen? (Qb B 0)=false:=by simp[World.frozen?,hX]
    have f1:w3.frozen? (Qb B 1)=false:=by simp[World.frozen?,hX]
    clear hb3 HG hX hU hY HX HU eo HB;simp only[];go_wp2;exact bodyPost_ret (v:=.tuple #[.agg #[Qa p,Qa 0],.bool true,.nilIface]) (by simp[results,Tryz.results221,go_sem,y0,y1]) rfl ⟨by rw[rJ.out],dx.out _ (au.out.setCell (by rw[lB.out];exact lRq _) _) _ _ _ _ (by simp;omega) (by simp;omega)⟩
  .have iY:decide (0<v)=false:=by simpa using hv
   have po:pg r 0 wd h p v=.tuple #[.agg #[Qa r,Qa 0],.bool true,.nilIface]:=by
    simp[pg,dP,aZ.oc,aZ.od,aZ.og,hv]
   have rJ:=hDq po;have y1:w2.cell? ⟨B+1+1,1,none⟩=some (Qa 0):=by rw[cR w2 _ 1 _ _ _ eo.out];rfl
   have z0:w2.frozen? ⟨B+1+1,0,none⟩=false:=by simp[World.frozen?,eo.out]
   have dw:w2.frozen? ⟨B+1+1,1,none⟩=false:=by simp[World.frozen?,eo.out]
   clear po;go_wp2;exact bodyPost_ret (v:=.tuple #[.agg #[Qa r,Qa 0],.bool true,.nilIface]) (by simp[results,Tryz.results221,go_sem,lC,y1]) rfl ⟨by rw[rJ.out],dx.out _ HB.out _ _ _ _ (by simp;omega) (by simp;omega)⟩
def ni:Value:=.agg #[.int .u8 0,Qa 0,Qa 0,Qa 0,Qa 0,Qa 0,Qa 0,Qa 0]
def rV (s:ByteArray):Value:=.agg #[.int .u8 (aN s 0),Qa (aN s 1),Qa (aA s 2),Qa (aN s 6),Qa (aN s 7),Qa (aA s 8),Qa (aA s 12),Qa (aA s 16)]
theorem acV (s:ByteArray) (v0:Value) (w:World) (c0:w.cell? (Qb 0 0)=some v0) (hs:((s.size:Int) != 30)=true) :
  Calls Tryz.prog 86 #[.string s] w fun e w'=>e=.returned (.tuple #[ni,v0])/\Qd w w':=by
 have hz:0<w.heap.size:=bCq _ _ c0;go_enter Tryz.func86,Tryz.ntmps86;go_wp2
 go_region
 all_goals go_wp2
 all_goals
  refine bodyPost_ret (v:=.tuple #[ni,v0]) (by simp[results,Tryz.results86,go_sem,ni]) rfl ⟨rfl,?_⟩
  repeat first | exact(bRq _ _).alloc (lRq _) _ | refine Below.drew ?_ | refine Below.setCell (p:=(Qb w.heap.size _)) ?_ (lRq w.heap.size) _
theorem acU (s:ByteArray) (v4:Value) (w:World) (c4:w.cell? (Qb 5 0)=some v4) (hs:((s.size:Int) != 30)=false) (hne:((eJ s 26:Int) != (ah.sum (s.data.toList.take 26):Int))=true) :
  Calls Tryz.prog 86 #[.string s] w fun e w'=>e=.returned (.tuple #[ni,v4])/\Qd w w':=by
 have hz:5<w.heap.size:=bCq _ _ c4;have hs':s.size=30:=by have:=hs;simp at this;omega
 have JA:26<=s.size:=by omega
 have f26:(26:Int)<=s.size:=by omega
 have hl:eJ (s.extract 26 s.size) 0=eJ s 26:=yh s 26 s.size (by omega) (lRq _);have iz:=hDq hs';clear hs';go_enter Tryz.func86,Tryz.ntmps86;go_wp2
 go_quiet (first | (go_at_call 148;refine Calls.quiet_of (yi _ _ ?_);(simp;have:=iz.out;omega)) | (go_at_call 149;refine Calls.quiet_of_same (tQ _ _ ?_);(simp[maxLen];have:=iz.out;omega)))
 go_wp2
 go_region
 all_goals go_wp2
 all_goals
  refine bodyPost_ret (v:=.tuple #[ni,v4]) (by simp[results,Tryz.results86,go_sem,ni]) rfl ⟨rfl,?_⟩
  iterate 8 refine Below.setCell (p:=(Qb w.heap.size _)) ?_ (lRq w.heap.size) _
  exact((bRq _ _).alloc (lRq _) _).trans ((below_drewN (nq+1)).mono (by simp))
theorem acT (s:ByteArray) (v2:Value) (w:World) (c2:w.cell? (Qb 3 0)=some v2) (hs:((s.size:Int) != 30)=false) (hne:((eJ s 26:Int) != (ah.sum (s.data.toList.take 26):Int))=false) (hsp:((s.extract 20 26).toList==[0,0,0,0,0,0])=false) :
  Calls Tryz.prog 86 #[.string s] w fun e w'=>e=.returned (.tuple #[ni,v2])/\Qd w w':=by
 have hz:3<w.heap.size:=bCq _ _ c2;have hs':s.size=30:=by have:=hs;simp at this;omega
 have JB:20<=s.size:=by omega
 have f20:(20:Int)<=s.size:=by omega
 have JA:26<=s.size:=by omega
 have f26:(26:Int)<=s.size:=by omega
 have hl:eJ (s.extract 26 s.size) 0=eJ s 26:=yh s 26 s.size (by omega) (lRq _);have iz:=hDq hs';clear hs';go_enter Tryz.func86,Tryz.ntmps86;go_wp2
 go_quiet (first | (go_at_call 148;refine Calls.quiet_of (yi _ _ ?_);(simp;have:=iz.out;omega)) | (go_at_call 149;refine Calls.quiet_of_same (tQ _ _ ?_);(simp[maxLen];have:=iz.out;omega)))
 go_wp2
 go_region
 all_goals go_wp2
 all_goals
  refine bodyPost_ret (v:=.tuple #[ni,v2]) (by simp[results,Tryz.results86,go_sem,ni]) rfl ⟨rfl,?_⟩
  iterate 8 refine Below.setCell (p:=(Qb w.heap.size _)) ?_ (lRq w.heap.size) _
  exact((bRq _ _).alloc (lRq _) _).trans ((below_drewN (nq+1)).mono (by simp))
theorem acR (s:ByteArray) (w:World) (hs:((s.size:Int) != 30)=false) (hne:((eJ s 26:Int) != (ah.sum (s.data.toList.take 26):Int))=false) (hsp:((s.extract 20 26).toList==[0,0,0,0,0,0])=true)
  (Am:Hid (∀ aj,Qd w aj->Calls Tryz.prog 151 #[rV s] aj fun e w'=>e=.returned .nilIface/\Qd aj w')) :
  Calls Tryz.prog 86 #[.string s] w fun e w'=>e=.returned (.tuple #[rV s,.nilIface])/\Qd w w':=by
 have hs':s.size=30:=by have:=hs;simp at this;omega
 have JB:20<=s.size:=by omega
 have f20:(20:Int)<=s.size:=by omega
 have JA:26<=s.size:=by omega
 have f26:(26:Int)<=s.size:=by omega
 have hl:eJ (s.extract 26 s.size) 0=eJ s 26:=yh s 26 s.size (by omega) (lRq _);have iz:=hDq hs';clear hs';go_enter Tryz.func86,Tryz.ntmps86;go_wp2
 go_quiet (first | (go_at_call 148;refine Calls.quiet_of (yi _ _ ?_);(simp;have:=iz.out;omega)) | (go_at_call 149;refine Calls.quiet_of_same (tQ _ _ ?_);(simp[maxLen];have:=iz.out;omega)))
 go_wp2_with fail
 have hB:Qd w ((w.alloc (.cells #[.int .u8 0,Qa 0,Qa 0,Qa 0,Qa 0,Qa 0,Qa 0,Qa 0] 95)).drewN nq):=((bRq _ _).alloc (lRq _) _).trans ((below_drewN nq).mono (by simp));have HB:=hDq hB;clear hB;refine(Re s _ iz.out).mono ?_;rintro e w1 ⟨rfl,hb1⟩
 go_wp2_with fail
 have hz1:w.heap.size<w1.heap.size:=by have:=hb1.size;simp at this;omega
 have HB1:Hid (Qd w w1):=HB.out.trans (hb1.mono HB.out.size);have bZ:Hid (Qd w (w1.alloc (.cells #[.int .u8 (aN s 0),Qa (aN s 1),Qa (aA s 2),Qa (aN s 6),Qa (aN s 7),Qa (aA s 8),Qa (aA s 12),Qa (aA s 16)] 95))):=HB1.out.alloc HB1.out.size _;have r0:w1.cell? (Qb w.heap.size 0)=some (.int .u8 0):=by rw[hb1.cell (p:=(Qb w.heap.size 0)) (by simp)];simp
 have z0:w1.frozen? (Qb w.heap.size 0)=false:=by rw[hb1.frozen (p:=(Qb w.heap.size 0)) (by simp)];simp
 have r1:w1.cell? (Qb w.heap.size 1)=some (Qa 0):=by rw[hb1.cell (p:=(Qb w.heap.size 1)) (by simp)];simp
 have dw:w1.frozen? (Qb w.heap.size 1)=false:=by rw[hb1.frozen (p:=(Qb w.heap.size 1)) (by simp)];simp
 have r2:w1.cell? (Qb w.heap.size 2)=some (Qa 0):=by rw[hb1.cell (p:=(Qb w.heap.size 2)) (by simp)];simp
 have z2:w1.frozen? (Qb w.heap.size 2)=false:=by rw[hb1.frozen (p:=(Qb w.heap.size 2)) (by simp)];simp
 have r3:w1.cell? (Qb w.heap.size 3)=some (Qa 0):=by rw[hb1.cell (p:=(Qb w.heap.size 3)) (by simp)];simp
 have z3:w1.frozen? (Qb w.heap.size 3)=false:=by rw[hb1.frozen (p:=(Qb w.heap.size 3)) (by simp)];simp
 have r4:w1.cell? (Qb w.heap.size 4)=some (Qa 0):=by rw[hb1.cell (p:=(Qb w.heap.size 4)) (by simp)];simp
 have z4:w1.frozen? (Qb w.heap.size 4)=false:=by rw[hb1.frozen (p:=(Qb w.heap.size 4)) (by simp)];simp
 have Ao:w1.cell? (Qb w.heap.size 5)=some (Qa 0):=by rw[hb1.cell (p:=(Qb w.heap.size 5)) (by simp)];simp
 have z5:w1.frozen? (Qb w.heap.size 5)=false:=by rw[hb1.frozen (p:=(Qb w.heap.size 5)) (by simp)];simp
 have r6:w1.cell? (Qb w.heap.size 6)=some (Qa 0):=by rw[hb1.cell (p:=(Qb w.heap.size 6)) (by simp)];simp
 have yj:w1.frozen? (Qb w.heap.size 6)=false:=by rw[hb1.frozen (p:=(Qb w.heap.size 6)) (by simp)];simp
 have Ap:w1.cell? (Qb w.heap.size 7)=some (Qa 0):=by rw[hb1.cell (p:=(Qb w.heap.size 7)) (by simp)];simp
 have yl:w1.frozen? (Qb w.heap.size 7)=false:=by rw[hb1.frozen (p:=(Qb w.heap.size 7)) (by simp)];simp
 clear hb1 HB;refine(Am.out _ bZ.out).mono ?_;rintro e w2 ⟨rfl,hb2⟩;have HB2:Hid (Qd w w2):=bZ.out.trans (hb2.mono bZ.out.size);have hz2:w1.heap.size<w2.heap.size:=by have:=hb2.size;simp at this;omega
 have R0:w2.cell? (Qb w.heap.size 0)=some (.int .u8 0):=by rw[hb2.cell (p:=(Qb w.heap.size 0)) (by simp;omega),World.cell?_alloc_lt _ _ (Qb w.heap.size 0) hz1];exact r0
 have acX:w2.frozen? (Qb w.heap.size 0)=false:=by rw[hb2.frozen (p:=(Qb w.heap.size 0)) (by simp;omega),World.frozen?_alloc_old _ _ (Qb w.heap.size 0) (Nat.ne_of_lt hz1)];exact z0
 have A0:w2.cell? (Qb w1.heap.size 0)=some (.int .u8 (aN s 0)):=by rw[hb2.cell (p:=(Qb w1.heap.size 0)) (by simp)];simp
 have dn:w2.cell? (Qb w.heap.size 1)=some (Qa 0):=by rw[hb2.cell (p:=(Qb w.heap.size 1)) (by simp;omega),World.cell?_alloc_lt _ _ (Qb w.heap.size 1) hz1];exact r1
 have acY:w2.frozen? (Qb w.heap.size 1)=false:=by rw[hb2.frozen (p:=(Qb w.heap.size 1)) (by simp;omega),World.frozen?_alloc_old _ _ (Qb w.heap.size 1) (Nat.ne_of_lt hz1)];exact dw
 have acZ:w2.cell? (Qb w1.heap.size 1)=some (Qa (aN s 1)):=by rw[hb2.cell (p:=(Qb w1.heap.size 1)) (by simp)];simp
 have R2:w2.cell? (Qb w.heap.size 2)=some (Qa 0):=by rw[hb2.cell (p:=(Qb w.heap.size 2)) (by simp;omega),World.cell?_alloc_lt _ _ (Qb w.heap.size 2) hz1];exact r2
 have ac0:w2.frozen? (Qb w.heap.size 2)=false:=by rw[hb2.frozen (p:=(Qb w.heap.size 2)) (by simp;omega),World.frozen?_alloc_old _ _ (Qb w.heap.size 2) (Nat.ne_of_lt hz1)];exact z2
 have A2:w2.cell? (Qb w1.heap.size 2)=some (Qa (aA s 2)):=by rw[hb2.cell (p:=(Qb w1.heap.size 2)) (by simp)];simp
 have qG:w2.cell? (Qb w.heap.size 3)=some (Qa 0):=by rw[hb2.cell (p:=(Qb w.heap.size 3)) (by simp;omega),World.cell?_alloc_lt _ _ (Qb w.heap.size 3) hz1];exact r3
 have ac1:w2.frozen? (Qb w.heap.size 3)=false:=by rw[hb2.frozen (p:=(Qb w.heap.size 3)) (by simp;omega),World.frozen?_alloc_old _ _ (Qb w.heap.size 3) (Nat.ne_of_lt hz1)];exact z3
 have A3:w2.cell? (Qb w1.heap.size 3)=some (Qa (aN s 6)):=by rw[hb2.cell (p:=(Qb w1.heap.size 3)) (by simp)];simp
 have JC:w2.cell? (Qb w.heap.size 4)=some (Qa 0):=by rw[hb2.cell (p:=(Qb w.heap.size 4)) (by simp;omega),World.cell?_alloc_lt _ _ (Qb w.heap.size 4) hz1];exact r4
 have ac2:w2.frozen? (Qb w.heap.size 4)=false:=by rw[hb2.frozen (p:=(Qb w.heap.size 4)) (by simp;omega),World.frozen?_alloc_old _ _ (Qb w.heap.size 4) (Nat.ne_of_lt hz1)];exact z4
 have ac3:w2.cell? (Qb w1.heap.size 4)=some (Qa (aN s 7)):=by rw[hb2.cell (p:=(Qb w1.heap.size 4)) (by simp)];simp
 have JD:w2.cell? (Qb w.heap.size 5)=some (Qa 0):=by rw[hb2.cell (p:=(Qb w.heap.size 5)) (by simp;omega),World.cell?_alloc_lt _ _ (Qb w.heap.size 5) hz1];exact Ao
 have ac4:w2.frozen? (Qb w.heap.size 5)=false:=by rw[hb2.frozen (p:=(Qb w.heap.size 5)) (by simp;omega),World.frozen?_alloc_old _ _ (Qb w.heap.size 5) (Nat.ne_of_lt hz1)];exact z5
 have ac5:w2.cell? (Qb w1.heap.size 5)=some (Qa (aA s 8)):=by rw[hb2.cell (p:=(Qb w1.heap.size 5)) (by simp)];simp
 have JE:w2.cell? (Qb w.heap.size 6)=some (Qa 0):=by rw[hb2.cell (p:=(Qb w.heap.size 6)) (by simp;omega),World.cell?_alloc_lt _ _ (Qb w.heap.size 6) hz1];exact r6
 have ac6:w2.frozen? (Qb w.heap.size 6)=false:=by rw[hb2.frozen (p:=(Qb w.heap.size 6)) (by simp;omega),World.frozen?_alloc_old _ _ (Qb w.heap.size 6) (Nat.ne_of_lt hz1)];exact yj
 have ac7:w2.cell? (Qb w1.heap.size 6)=some (Qa (aA s 12)):=by rw[hb2.cell (p:=(Qb w1.heap.size 6)) (by simp)];simp
 have JF:w2.cell? (Qb w.heap.size 7)=some (Qa 0):=by rw[hb2.cell (p:=(Qb w.heap.size 7)) (by simp;omega),World.cell?_alloc_lt _ _ (Qb w.heap.size 7) hz1];exact Ap
 have ac8:w2.frozen? (Qb w.heap.size 7)=false:=by rw[hb2.frozen (p:=(Qb w.heap.size 7)) (by simp;omega),World.frozen?_alloc_old _ _ (Qb w.heap.size 7) (Nat.ne_of_lt hz1)];exact yl
 have ac9:w2.cell? (Qb w1.heap.size 7)=some (Qa (aA s 16)):=by rw[hb2.cell (p:=(Qb w1.heap.size 7)) (by simp)];simp
 clear hb2 r0 r1 r2 r3 r4 Ao r6 Ap z0 dw z2 z3 z4 z5 yj yl;go_wp2;refine bodyPost_ret (v:=.tuple #[rV s,.nilIface]) (by simp[results,Tryz.results86,go_sem,rV,R0,dn,R2,qG,JC,JD,JE,JF]) rfl ⟨rfl,?_⟩
 iterate 8 refine Below.setCell (p:=(Qb w.heap.size _)) ?_ (lRq w.heap.size) _
 exact HB2.out
theorem acS (s:ByteArray) (T:TypeId) (x:Value) (w:World) (hs:((s.size:Int) != 30)=false) (hne:((eJ s 26:Int) != (ah.sum (s.data.toList.take 26):Int))=false) (hsp:((s.extract 20 26).toList==[0,0,0,0,0,0])=true)
  (Am:Hid (∀ aj,Qd w aj->Calls Tryz.prog 151 #[rV s] aj fun e w'=>e=.returned (.iface T x)/\Qd aj w')) :
  Calls Tryz.prog 86 #[.string s] w fun e w'=>e=.returned (.tuple #[ni,.iface T x])/\Qd w w':=by
 have hs':s.size=30:=by have:=hs;simp at this;omega
 have JB:20<=s.size:=by omega
 have f20:(20:Int)<=s.size:=by omega
 have JA:26<=s.size:=by omega
 have f26:(26:Int)<=s.size:=by omega
 have hl:eJ (s.extract 26 s.size) 0=eJ s 26:=yh s 26 s.size (by omega) (lRq _);have iz:=hDq hs';clear hs';go_enter Tryz.func86,Tryz.ntmps86;go_wp2
 go_quiet (first | (go_at_call 148;refine Calls.quiet_of (yi _ _ ?_);(simp;have:=iz.out;omega)) | (go_at_call 149;refine Calls.quiet_of_same (tQ _ _ ?_);(simp[maxLen];have:=iz.out;omega)))
 go_wp2_with fail
 have hB:Qd w ((w.alloc (.cells #[.int .u8 0,Qa 0,Qa 0,Qa 0,Qa 0,Qa 0,Qa 0,Qa 0] 95)).drewN nq):=((bRq _ _).alloc (lRq _) _).trans ((below_drewN nq).mono (by simp));have HB:=hDq hB;clear hB;refine(Re s _ iz.out).mono ?_;rintro e w1 ⟨rfl,hb1⟩
 go_wp2_with fail
 have hz1:w.heap.size<w1.heap.size:=by have:=hb1.size;simp at this;omega
 have HB1:Hid (Qd w w1):=HB.out.trans (hb1.mono HB.out.size);have bZ:Hid (Qd w (w1.alloc (.cells #[.int .u8 (aN s 0),Qa (aN s 1),Qa (aA s 2),Qa (aN s 6),Qa (aN s 7),Qa (aA s 8),Qa (aA s 12),Qa (aA s 16)] 95))):=HB1.out.alloc HB1.out.size _;have r0:w1.cell? (Qb w.heap.size 0)=some (.int .u8 0):=by rw[hb1.cell (p:=(Qb w.heap.size 0)) (by simp)];simp
 have z0:w1.frozen? (Qb w.heap.size 0)=false:=by rw[hb1.frozen (p:=(Qb w.heap.size 0)) (by simp)];simp
 have r1:w1.cell? (Qb w.heap.size 1)=some (Qa 0):=by rw[hb1.cell (p:=(Qb w.heap.size 1)) (by simp)];simp
 have dw:w1.frozen? (Qb w.heap.size 1)=false:=by rw[hb1.frozen (p:=(Qb w.heap.size 1)) (by simp)];simp
 have r2:w1.cell? (Qb w.heap.size 2)=some (Qa 0):=by rw[hb1.cell (p:=(Qb w.heap.size 2)) (by simp)];simp
 have z2:w1.frozen? (Qb w.heap.size 2)=false:=by rw[hb1.frozen (p:=(Qb w.heap.size 2)) (by simp)];simp
 have r3:w1.cell? (Qb w.heap.size 3)=some (Qa 0):=by rw[hb1.cell (p:=(Qb w.heap.size 3)) (by simp)];simp
 have z3:w1.frozen? (Qb w.heap.size 3)=false:=by rw[hb1.frozen (p:=(Qb w.heap.size 3)) (by simp)];simp
 have r4:w1.cell? (Qb w.heap.size 4)=some (Qa 0):=by rw[hb1.cell (p:=(Qb w.heap.size 4)) (by simp)];simp
 have z4:w1.frozen? (Qb w.heap.size 4)=false:=by rw[hb1.frozen (p:=(Qb w.heap.size 4)) (by simp)];simp
 have Ao:w1.cell? (Qb w.heap.size 5)=some (Qa 0):=by rw[hb1.cell (p:=(Qb w.heap.size 5)) (by simp)];simp
 have z5:w1.frozen? (Qb w.heap.size 5)=false:=by rw[hb1.frozen (p:=(Qb w.heap.size 5)) (by simp)];simp
 have r6:w1.cell? (Qb w.heap.size 6)=some (Qa 0):=by rw[hb1.cell (p:=(Qb w.heap.size 6)) (by simp)];simp
 have yj:w1.frozen? (Qb w.heap.size 6)=false:=by rw[hb1.frozen (p:=(Qb w.heap.size 6)) (by simp)];simp
 have Ap:w1.cell? (Qb w.heap.size 7)=some (Qa 0):=by rw[hb1.cell (p:=(Qb w.heap.size 7)) (by simp)];simp
 have yl:w1.frozen? (Qb w.heap.size 7)=false:=by rw[hb1.frozen (p:=(Qb w.heap.size 7)) (by simp)];simp
 clear hb1 HB;refine(Am.out _ bZ.out).mono ?_;rintro e w2 ⟨rfl,hb2⟩;have HB2:Hid (Qd w w2):=bZ.out.trans (hb2.mono bZ.out.size);have hz2:w1.heap.size<w2.heap.size:=by have:=hb2.size;simp at this;omega
 have R0:w2.cell? (Qb w.heap.size 0)=some (.int .u8 0):=by rw[hb2.cell (p:=(Qb w.heap.size 0)) (by simp;omega),World.cell?_alloc_lt _ _ (Qb w.heap.size 0) hz1];exact r0
 have acX:w2.frozen? (Qb w.heap.size 0)=false:=by rw[hb2.frozen (p:=(Qb w.heap.size 0)) (by simp;omega),World.frozen?_alloc_old _ _ (Qb w.heap.size 0) (Nat.ne_of_lt hz1)];exact z0
 have A0:w2.cell? (Qb w1.heap.size 0)=some (.int .u8 (aN s 0)):=by rw[hb2.cell (p:=(Qb w1.heap.size 0)) (by simp)];simp
 have dn:w2.cell? (Qb w.heap.size 1)=some (Qa 0):=by rw[hb2.cell (p:=(Qb w.heap.size 1)) (by simp;omega),World.cell?_alloc_lt _ _ (Qb w.heap.size 1) hz1];exact r1
 have acY:w2.frozen? (Qb w.heap.size 1)=false:=by rw[hb2.frozen (p:=(Qb w.heap.size 1)) (by simp;omega),World.frozen?_alloc_old _ _ (Qb w.heap.size 1) (Nat.ne_of_lt hz1)];exact dw
 have acZ:w2.cell? (Qb w1.heap.size 1)=some (Qa (aN s 1)):=by rw[hb2.cell (p:=(Qb w1.heap.size 1)) (by simp)];simp
 have R2:w2.cell? (Qb w.heap.size 2)=some (Qa 0):=by rw[hb2.cell (p:=(Qb w.heap.size 2)) (by simp;omega),World.cell?_alloc_lt _ _ (Qb w.heap.size 2) hz1];exact r2
 have ac0:w2.frozen? (Qb w.heap.size 2)=false:=by rw[hb2.frozen (p:=(Qb w.heap.size 2)) (by simp;omega),World.frozen?_alloc_old _ _ (Qb w.heap.size 2) (Nat.ne_of_lt hz1)];exact z2
 have A2:w2.cell? (Qb w1.heap.size 2)=some (Qa (aA s 2)):=by rw[hb2.cell (p:=(Qb w1.heap.size 2)) (by simp)];simp
 have qG:w2.cell? (Qb w.heap.size 3)=some (Qa 0):=by rw[hb2.cell (p:=(Qb w.heap.size 3)) (by simp;omega),World.cell?_alloc_lt _ _ (Qb w.heap.size 3) hz1];exact r3
 have ac1:w2.frozen? (Qb w.heap.size 3)=false:=by rw[hb2.frozen (p:=(Qb w.heap.size 3)) (by simp;omega),World.frozen?_alloc_old _ _ (Qb w.heap.size 3) (Nat.ne_of_lt hz1)];exact z3
 have A3:w2.cell? (Qb w1.heap.size 3)=some (Qa (aN s 6)):=by rw[hb2.cell (p:=(Qb w1.heap.size 3)) (by simp)];simp
 have JC:w2.cell? (Qb w.heap.size 4)=some (Qa 0):=by rw[hb2.cell (p:=(Qb w.heap.size 4)) (by simp;omega),World.cell?_alloc_lt _ _ (Qb w.heap.size 4) hz1];exact r4
 have ac2:w2.frozen? (Qb w.heap.size 4)=false:=by rw[hb2.frozen (p:=(Qb w.heap.size 4)) (by simp;omega),World.frozen?_alloc_old _ _ (Qb w.heap.size 4) (Nat.ne_of_lt hz1)];exact z4
 have ac3:w2.cell? (Qb w1.heap.size 4)=some (Qa (aN s 7)):=by rw[hb2.cell (p:=(Qb w1.heap.size 4)) (by simp)];simp
 have JD:w2.cell? (Qb w.heap.size 5)=some (Qa 0):=by rw[hb2.cell (p:=(Qb w.heap.size 5)) (by simp;omega),World.cell?_alloc_lt _ _ (Qb w.heap.size 5) hz1];exact Ao
 have ac4:w2.frozen? (Qb w.heap.size 5)=false:=by rw[hb2.frozen (p:=(Qb w.heap.size 5)) (by simp;omega),World.frozen?_alloc_old _ _ (Qb w.heap.size 5) (Nat.ne_of_lt hz1)];exact z5
 have ac5:w2.cell? (Qb w1.heap.size 5)=some (Qa (aA s 8)):=by rw[hb2.cell (p:=(Qb w1.heap.size 5)) (by simp)];simp
 have JE:w2.cell? (Qb w.heap.size 6)=some (Qa 0):=by rw[hb2.cell (p:=(Qb w.heap.size 6)) (by simp;omega),World.cell?_alloc_lt _ _ (Qb w.heap.size 6) hz1];exact r6
 have ac6:w2.frozen? (Qb w.heap.size 6)=false:=by rw[hb2.frozen (p:=(Qb w.heap.size 6)) (by simp;omega),World.frozen?_alloc_old _ _ (Qb w.heap.size 6) (Nat.ne_of_lt hz1)];exact yj
 have ac7:w2.cell? (Qb w1.heap.size 6)=some (Qa (aA s 12)):=by rw[hb2.cell (p:=(Qb w1.heap.size 6)) (by simp)];simp
 have JF:w2.cell? (Qb w.heap.size 7)=some (Qa 0):=by rw[hb2.cell (p:=(Qb w.heap.size 7)) (by simp;omega),World.cell?_alloc_lt _ _ (Qb w.heap.size 7) hz1];exact Ap
 have ac8:w2.frozen? (Qb w.heap.size 7)=false:=by rw[hb2.frozen (p:=(Qb w.heap.size 7)) (by simp;omega),World.frozen?_alloc_old _ _ (Qb w.heap.size 7) (Nat.ne_of_lt hz1)];exact yl
 have ac9:w2.cell? (Qb w1.heap.size 7)=some (Qa (aA s 16)):=by rw[hb2.cell (p:=(Qb w1.heap.size 7)) (by simp)];simp
 clear hb2 r0 r1 r2 r3 r4 Ao r6 Ap z0 dw z2 z3 z4 z5 yj yl;go_wp2;refine bodyPost_ret (v:=.tuple #[ni,.iface T x]) (by simp[results,Tryz.results86,go_sem,ni,R0,dn,R2,qG,JC,JD,JE,JF]) rfl ⟨rfl,?_⟩
 iterate 8 refine Below.setCell (p:=(Qb w.heap.size _)) ?_ (lRq w.heap.size) _
 exact HB2.out
theorem BR {w:World} {base:Nat} {v:Value} {l:List Cv.ag} (h:w.ownsRow base 197 5 v l.length (flat l)):(v=.slice none 0 0/\l=[])\/∃ g cap,v=.slice (some (Qb g 0)) l.length cap/\dR w g 0 l:=by
 rcases h.2 with ⟨e,e2⟩ | ⟨g,cap,cur,e,hg,dX,hle,_,_,_⟩
 .exact .inl ⟨e,List.eq_nil_of_length_eq_zero e2⟩
 .refine .inr ⟨g,cap,e,zY fun j u hu=>?_⟩
  have:=World.ownsRow.cells h (g:=g) (by rw[e];rfl) j u hu
  have hp:(⟨g,0,none⟩:Addr).add j=(Qb g j):=by unfold Addr.add;split <;> simp_all
  rwa [hp]at this
end Go.Proofs.YtjolccidheflpaaGreatDoor
