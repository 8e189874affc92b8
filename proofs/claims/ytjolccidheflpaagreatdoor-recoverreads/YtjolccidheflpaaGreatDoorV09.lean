/- What fields does, for every text of a frame's length. -/
import Derived.Test.YtjolccidheflpaaGreatDoorV07
import Derived.Test.YtjolccidheflpaaGreatDoorV08
import Derived.Test.YtjolccidheflpaaGreatDoorV00
import Derived.OneCell
import Derived.Laws.IdiomCopy
import Derived.Test.YtjolccidheflpaaGreatDoorV03
import Derived.RegionTactic
import Derived.ChangeAlike
namespace Go.Proofs.YtjolccidheflpaaGreatDoor
set_option maxHeartbeats 8000000
open Go.RowKit
set_option maxRecDepth 100000
theorem qM (s:ByteArray) (i:Nat):av s i<4294967296:=by
 have:=gW s i;have:=gW s (i+1);have:=gW s (i+2);have:=gW s (i+3)
 unfold av;omega
theorem qN (s:ByteArray) (a b:Nat) (h:a+4<=b) (hb:b<=s.size):av (s.extract a b) 0=av s a:=by
 simp only[av];rw[nC s a b 0 (by omega) hb,nC s a b (0+1) (by omega) hb,nC s a b (0+2) (by omega) hb,nC s a b (0+3) (by omega) hb];rfl
theorem xM (s:ByteArray) (a b:Nat) (h:a+4<=b) (hb:b<=s.size):dm (s.extract a b) 0=dm s a:=by
 simp only[dm];rw[nC s a b 0 (by omega) hb,nC s a b (0+1) (by omega) hb,nC s a b (0+2) (by omega) hb,nC s a b (0+3) (by omega) hb];rfl
theorem below_drewN {w:World} (m:Nat):Below w.heap.size w (w.drewN m):=by
 induction m with
 | zero=>exact bRq _ _
 | succ n ih=>exact ih.drew
theorem RS (s:ByteArray) (w:World) (hs:s.size=30) :
  Calls Tryz.prog 150 #[.string s] w fun e w'=>e=.returned (.agg #[.int .u8 (az s 0),.int .i64 (az s 1),.int .i64 (av s 2),.int .i64 (az s 6),.int .i64 (az s 7),.int .i64 (av s 8),.int .i64 (av s 12),.int .i64 (av s 16)])∧Below w.heap.size w w':=by
 have d8:=hDq hs;have g0:0<s.size:=by omega
 have g1:1<s.size:=by omega
 have g6:6<s.size:=by omega
 have g7:7<s.size:=by omega
 have h1:(1:Int)<s.size:=by omega
 have h6:(6:Int)<s.size:=by omega
 have h7:(7:Int)<s.size:=by omega
 have e6:6<=s.size:=by omega
 have Qv:12<=s.size:=by omega
 have Qw:16<=s.size:=by omega
 have uQ:20<=s.size:=by omega
 have f6:(6:Int)<=s.size:=by omega
 have f12:(12:Int)<=s.size:=by omega
 have f16:(16:Int)<=s.size:=by omega
 have f20:(20:Int)<=s.size:=by omega
 clear hs;go_enter Tryz.func150,Tryz.ntmps150;go_wp2;refine jW 28 (by kernel_rfl) (by kernel_rfl) ?_;simp only[List.take_succ_cons,List.take_zero,List.drop_succ_cons,List.drop_zero]
 repeat (first | go_big_quiet_step ((go_at_call 168;refine Calls.quiet_of (nD _ _ ?_);(simp;have:=d8.out;omega))) | quiet_step ((go_at_call 168;refine Calls.quiet_of (nD _ _ ?_);(simp;have:=d8.out;omega))))
 refine wpQuiet_nil ?_;intro _ hw';obtain⟨nq,hw''⟩:=hw';subst hw'';go_wp2;have E:Value.agg #[.int .u8 (s[0]).toNat,.int .i64 (wrap64 (s[1]).toNat),.int .i64 (wrap64 (av (s.extract 2 6) 0)),.int .i64 (wrap64 (s[6]).toNat),.int .i64 (wrap64 (s[7]).toNat),.int .i64 (wrap64 (av (s.extract 8 12) 0)),.int .i64 (wrap64 (av (s.extract 12 16) 0)),.int .i64 (wrap64 (av (s.extract 16 20) 0))]
   = .agg #[.int .u8 (az s 0),.int .i64 (az s 1),.int .i64 (av s 2),.int .i64 (az s 6),.int .i64 (az s 7),.int .i64 (av s 8),.int .i64 (av s 12),.int .i64 (av s 16)]:=by
  have hs:=d8.out;rw[fW s 0 g0,fW s 1 g1,fW s 6 g6,fW s 7 g7,ml (az s 1) (by have:=gW s 1;omega),ml (az s 6) (by have:=gW s 6;omega),ml (az s 7) (by have:=gW s 7;omega),
   qN s 2 6 (by omega) (by omega),qN s 8 12 (by omega) (by omega),qN s 12 16 (by omega) (by omega),qN s 16 20 (by omega) (by omega),ml (av s 2) (by have:=qM s 2;omega),ml (av s 8) (by have:=qM s 8;omega),ml (av s 12) (by have:=qM s 12;omega),ml (av s 16) (by have:=qM s 16;omega)]
 refine bodyPost_ret (v:=.agg #[.int .u8 (s[0]).toNat,.int .i64 (wrap64 (s[1]).toNat),.int .i64 (wrap64 (av (s.extract 2 6) 0)),.int .i64 (wrap64 (s[6]).toNat),.int .i64 (wrap64 (s[7]).toNat),.int .i64 (wrap64 (av (s.extract 8 12) 0)),.int .i64 (wrap64 (av (s.extract 12 16) 0)),.int .i64 (wrap64 (av (s.extract 16 20) 0))]) (by simp[results,Tryz.results150,go_sem]) rfl ⟨?_,?_⟩
 ·rw[E]
 ·iterate 8 refine Below.setCell (p:=⟨w.heap.size,_,none⟩) ?_ (lRq w.heap.size) _
  exact((bRq _ _).alloc (lRq _) _).trans ((below_drewN nq).mono (by simp))
theorem dn {w:World} (m:Nat):Below w.heap.size w (w.drewN m):=⟨rfl,rfl,rfl,lRq _,fun _ _=>rfl⟩
structure gK (w:World) (T:TypeId) (v1 v6 v7:Value):Prop where
 c1:w.cell? ⟨1,0,none⟩=some (.iface T v1)
 c6:w.cell? ⟨7,0,none⟩=some (.iface T v6)
 c7:w.cell? ⟨8,0,none⟩=some (.iface T v7)
theorem gK.later {w w':World} {T:TypeId} {v1 v6 v7:Value} (h:gK w T v1 v6 v7) (hb:Below w.heap.size w w'):gK w' T v1 v6 v7 :=
 ⟨cell_later hb h.c1,cell_later hb h.c6,cell_later hb h.c7⟩
theorem RD (cap:Nat) (a:Option Addr) (w:World):Calls Tryz.prog 250 #[.slice a 0 cap] w fun e w'=>e=.returned .nilIface∧w'=w:=by
 go_enter Tryz.func250,Tryz.ntmps250;go_wp2;refine wp_loop_rounds 1 ?_;rw[rounds_succ];go_wp2;go_ret;exact⟨rfl,rfl⟩
theorem acN (n cap:Nat) (a:Option Addr) (T:TypeId) (v1 v6 v7:Value) (w:World) (h:gK w T v1 v6 v7) (hn:120<n):Calls Tryz.prog 250 #[.slice a n cap] w fun e w'=>e=.returned (.iface T v7)∧w'=w:=by
 have hn':(120:Int)<n:=by omega
 have c7:=h.c7;go_enter Tryz.func250,Tryz.ntmps250;go_wp2;go_ret;exact⟨rfl,rfl⟩
theorem JZ (b off cap n:Nat) (l:List Cv.ag) (T:TypeId) (v1 v6 v7:Value) (w:World) (hn:Hid (l.length=n)) (hn':n<=120) (hcap:n<=cap) (hl:Hid (ew w b off l)) (he:Hid (gK w T v1 v6 v7)) :
  Calls Tryz.prog 250 #[.slice (some ⟨b,off,none⟩) n cap] w fun e w'=>(Cv.Au l n∧e=.returned .nilIface ∨
   ∃ i B,i<n∧Cv.Au l i∧Cv.oK l i=false∧e=.returned (.iface 172 (.pointer (some ⟨B,0,none⟩)))∧w'.cell? ⟨B,0,none⟩=some (.int .i64 (i:Nat))∧w'.cell? ⟨B,1,none⟩=some (if Cv.ok (Cv.nth l i)=true then .iface T v6 else .iface T v1))∧Below w.heap.size w w':=by
 have hni:¬ (120:Int)<n:=by omega
 go_enter Tryz.func250,Tryz.ntmps250;go_wp2
 go_loopw [11] (fun i wr=>∃ k:Nat,k<=n∧i=.int .i64 k∧Cv.Au l k∧Below w.heap.size w wr) (fun i _=>n-(intOf i).toNat)
 case atStart=>exact⟨0,Nat.zero_le _,rfl,fun i hi=>absurd hi (Nat.not_lt_zero i),bRq _ _⟩
 case round =>
  obtain⟨k,hk,rfl,lL,hb⟩:=hrel;have HW:=hDq lL;have HB:=hDq hb;clear lL hb;by_cases hlt:k<n
  ·have aK:(k:Int)<n:=by omega
   have anQ:k<=cap:=by omega
   obtain⟨c0,c1,c2,c3,c4⟩:=(hl.out.later HB.out) k (by rw[hn.out];exact hlt);have HX:Hid (∃ x,x=Cv.nth l k):=⟨_,rfl⟩;generalize hx:Cv.nth l k=x at *;have HX:=hDq hx;clear hx
   go_wp2_with fail
   refine(acO x _).mono ?_;rintro e w2 ⟨rfl,hb2⟩;have HB2:Hid (Below w.heap.size w w2):=(HB.out.alloc HB.out.size _).trans (hb2.mono (by have:=HB.out.size;simp;omega));have d0:w2.cell? ⟨wr.heap.size,0,none⟩=some (.int .i64 x.id):=by rw[hb2.cell (p:=⟨wr.heap.size,0,none⟩) (by simp)];simp
   clear hb2 c0 c1 c2 c3 c4;cases hok:Cv.ok x with
   | false =>
    have xK:=hDq hok;clear hok;have e1:=(he.out.later HB2.out).c1;simp only[];go_wp2;go_ret;refine⟨.inr ⟨k,w2.heap.size,hlt,HW.out,?_,rfl,by simp,?_⟩,HB2.out.alloc HB2.out.size _⟩
    ·unfold Cv.oK;rw[HX.out,xK.out];rfl
    ·rw[HX.out,xK.out];simp
   | true =>
    have xK:=hDq hok;clear hok;have hL:=hDq ((hl.out.later HB2.out).take k);have hT:Hid ((l.take k).length=k):=by show _=_;rw[lKq,hn.out];omega
    simp only[];go_wp2;refine jW 5 (by kernel_rfl) (by kernel_rfl) ?_;simp only[List.take_succ_cons,List.take_zero,List.drop_succ_cons,List.drop_zero]
    repeat (first | go_big_quiet_step (fail) | quiet_step (fail))
    refine wpQuiet_nil ?_;intro _ hw';obtain⟨nq,hw''⟩:=hw';subst hw'';have au:Hid (Below w.heap.size w (w2.drewN nq)):=HB2.out.trans ((dn nq).mono HB2.out.size);have hL3:=hDq (hL.out.later (dn nq));clear hL;generalize w2.drewN nq=w3 at *
    go_wp2_with fail
    refine(acP b off cap k x.id (l.take k) w3 hT (by omega) hL3).mono ?_;rintro e w4 ⟨rfl,hb4⟩;have bg:=hDq (au.out.trans (hb4.mono au.out.size));clear hb4 hL3 d0;cases D9:Cv.has (l.take k) x.id with
    | true =>
     have acQ:=hDq D9;clear D9;have e6:=(he.out.later bg.out).c6;simp only[];go_wp2;go_ret;refine⟨.inr ⟨k,w4.heap.size,hlt,HW.out,?_,rfl,by simp,?_⟩,bg.out.alloc bg.out.size _⟩
     ·unfold Cv.oK;rw[HX.out,xK.out,acQ.out];rfl
     ·rw[HX.out,xK.out];simp
    | false =>
     have RF:Cv.Au l (k+1):=by
      intro i hi;by_cases e:i=k
      ·rw[e];unfold Cv.oK;rw[HX.out,xK.out,D9];rfl
      ·exact HW.out i (by omega)
     have acR:=hDq RF;clear RF D9;simp only[];go_wp2;exact⟨⟨k+1,by omega,by go_num,acR.out,bg.out⟩,by simp[intOf];omega⟩
  ·have aK:¬ (k:Int)<n:=by omega
   have eU:k=n:=by omega
   have lL:=HW.out;rw[eU]at lL;have acS:=hDq lL;clear lL eU;go_wp2;go_ret;exact⟨.inl ⟨acS.out,rfl⟩,HB.out⟩
theorem acH (b off cap n:Nat) (l:List Cv.ag) (T:TypeId) (v1 v6 v7:Value) (w:World) (hn:Hid (l.length=n)) (hcap:n<=cap) (hl:Hid (ew w b off l)) (he:Hid (gK w T v1 v6 v7)) (lM:¬ Cv.eJ l) :
  Calls Tryz.prog 250 #[.slice (some ⟨b,off,none⟩) n cap] w fun e w'=>(∃ U x,e=.returned (.iface U x))∧Below w.heap.size w w':=by
 by_cases h:120<n
 ·refine(acN n cap _ T v1 v6 v7 w he.out h).mono ?_
  rintro e w' ⟨rfl,rfl⟩;exact⟨⟨_,_,rfl⟩,bRq _ _⟩
 ·refine(JZ b off cap n l T v1 v6 v7 w hn (by omega) hcap hl he).mono ?_
  rintro e w' ⟨h1 | ⟨i,B,_,_,_,rfl,_⟩,hb⟩
  ·exact absurd ⟨by rw[hn.out];omega,by rw[hn.out];exact h1.1⟩ lM
  ·exact⟨⟨_,_,rfl⟩,hb⟩
theorem RE (b off cap n:Nat) (l:List Cv.ag) (T:TypeId) (v1 v6 v7:Value) (w:World) (hn:Hid (l.length=n)) (hcap:n<=cap) (hl:Hid (ew w b off l)) (he:Hid (gK w T v1 v6 v7)) (hok:Cv.eJ l) :
  Calls Tryz.prog 250 #[.slice (some ⟨b,off,none⟩) n cap] w fun e w'=>e=.returned .nilIface∧Below w.heap.size w w':=by
 have sV:=hok.1;rw[hn.out]at sV;refine(JZ b off cap n l T v1 v6 v7 w hn sV hcap hl he).mono ?_;rintro e w' ⟨h1 | ⟨i,B,hi,_,hno,_⟩,hb⟩
 ·exact⟨h1.2,hb⟩
 ·rw[hok.2 i (by rw[hn.out];exact hi)]at hno
  cases hno
theorem RI (b off cap n:Nat) (l:List Cv.ag) (T:TypeId) (v1 v6 v7:Value) (w:World) (hn:Hid (l.length=n)) (hcap:n<=cap) (hl:Hid (ew w b off l)) (he:Hid (gK w T v1 v6 v7)) (hok:Hid (Cv.eJ l)) :
  Calls Tryz.prog 315 #[.slice (some ⟨b,off,none⟩) n cap] w fun e w'=>e=.returned (.slice (some ⟨b,off,none⟩) n cap)∧Below w.heap.size w w':=by
 go_enter Tryz.func315,Tryz.ntmps315
 go_wp2_with fail
 refine(RE b off cap n l T v1 v6 v7 w hn hcap hl he hok.out).mono ?_;rintro e w1 ⟨rfl,hb1⟩;have HB1:=hDq hb1;clear hb1;simp only[];go_wp2;go_ret;exact⟨rfl,HB1.out⟩
theorem acY (cap:Nat) (a:Option Addr) (w:World):Calls Tryz.prog 315 #[.slice a 0 cap] w fun e w'=>e=.returned (.slice a 0 cap)∧w'=w:=by
 go_enter Tryz.func315,Tryz.ntmps315
 go_wp2_with fail
 refine(RD cap a w).mono ?_;rintro e w1 ⟨rfl,rfl⟩;simp only[];go_wp2;go_ret;exact⟨rfl,rfl⟩
theorem RJ (cap:Nat) (a:Option Addr) (f:Value) (w:World):Calls Tryz.prog 308 #[.slice a 0 cap,f] w fun e w'=>e=.returned (.int .i64 0)∧w'=w:=by
 go_enter Tryz.func308,Tryz.ntmps308
 go_wp2_with fail
 refine(acY cap a w).mono ?_;rintro e w1 ⟨rfl,rfl⟩;simp only[];go_wp2;refine wp_loop_rounds 1 ?_;rw[rounds_succ];go_wp2;go_ret;exact⟨rfl,rfl⟩
theorem acZ (b off cap n B:Nat) (p:Int) (l:List Cv.ag) (T:TypeId) (v1 v6 v7:Value) (w:World) (hn:Hid (l.length=n)) (hcap:n<=cap) (hl:Hid (ew w b off l)) (he:Hid (gK w T v1 v6 v7)) (hok:Hid (Cv.eJ l)) (hc:w.cell? ⟨B,0,none⟩=some (.int .i64 p)) :
  Calls Tryz.prog 308 #[.slice (some ⟨b,off,none⟩) n cap,.func (.func 309) #[] #[.pointer (some ⟨B,0,none⟩)]] w fun e w'=>e=.returned (.int .i64 (Cv.df (Cv.gM p) l))∧Below w.heap.size w w':=by
 have sV:=hok.out.1;rw[hn.out]at sV;have HR:Hid (∀ k,0<=Cv.df (Cv.gM p) (l.take k)∧Cv.df (Cv.gM p) (l.take k)<=120000):=fun k=>by
  have:=Cv.mA (Cv.gM p) (l.take k) (hok.out.oks.take k)
  have h2:(l.take k).length<=120:=by rw[lKq,hn.out];omega
  omega
 go_enter Tryz.func308,Tryz.ntmps308
 go_wp2_with fail
 refine(RI b off cap n l T v1 v6 v7 w hn hcap hl he hok).mono ?_;rintro e w1 ⟨rfl,hb1⟩;have HB1:=hDq hb1;clear hb1;simp only[];go_wp2
 go_loopw [5,11] (fun s i wr=>∃ k:Nat,k<=n∧i=.int .i64 k∧s=.int .i64 (Cv.df (Cv.gM p) (l.take k))∧Below w.heap.size w wr) (fun _ i _=>n-(intOf i).toNat)
 case atStart=>exact⟨0,Nat.zero_le _,rfl,rfl,HB1.out⟩
 case round =>
  obtain⟨k,hk,rfl,rfl,hb⟩:=hrel;have HB:=hDq hb;clear hb;by_cases hlt:k<n
  ·have aK:(k:Int)<n:=by omega
   obtain⟨c0,c1,c2,c3,c4⟩:=(hl.out.later HB.out) k (by rw[hn.out];exact hlt);have HS:=hDq (Cv.JV (Cv.gM p) (l:=l) (k:=k) (by rw[hn.out];exact hlt));obtain⟨r1,r2⟩:=HR.out k;have aT:=hDq (HR.out (k+1));rw[HS.out]at aT;generalize Cv.df (Cv.gM p) (l.take k)=sk at *;generalize Cv.nth l k=x at *;have hcc:=fun W (h:Below w.heap.size w W)=>ac0 x B p W (cell_later h hc);have vk:=hDq hcc;clear hcc;have fZ:Hid (Below w.heap.size w (wr.alloc (.cells #[.int .i64 x.id,.int .i64 x.ak,.int .i64 x.sd,.int .i64 x.pr,.int .i64 x.q] 197))):=HB.out.alloc HB.out.size _
   go_wp2_with fail
   refine(vk.out _ fZ.out).mono ?_;rintro e w2 ⟨rfl,hb2⟩;have HB2:Hid (Below w.heap.size w w2):=fZ.out.trans (hb2.mono fZ.out.size);have d4:w2.cell? ⟨wr.heap.size,4,none⟩=some (.int .i64 x.q):=by rw[hb2.cell (p:=⟨wr.heap.size,4,none⟩) (by simp)];simp
   clear hb2 c0 c1 c2 c3 c4 vk fZ;cases hp:Cv.gM p x with
   | true =>
    have HS2:=hDq (show Cv.df (Cv.gM p) (l.take (k+1))=sk+x.q by have:=HS.out;rw[hp]at this;simpa using this);have hr2:0<=sk+x.q∧sk+x.q<=120000:=by have:=aT.out;rw[hp]at this;simpa using this
    clear HS aT hp;obtain⟨r3,r4⟩:=hr2;simp only[];go_wp2;exact⟨⟨k+1,by omega,by go_num,by rw[HS2.out],HB2.out⟩,by simp[intOf];omega⟩
   | false =>
    have HS2:=hDq (show Cv.df (Cv.gM p) (l.take (k+1))=sk by have:=HS.out;rw[hp]at this;simpa using this);clear HS aT hp;simp only[];go_wp2;exact⟨⟨k+1,by omega,by go_num,by rw[HS2.out],HB2.out⟩,by simp[intOf];omega⟩
  ·have aK:¬ (k:Int)<n:=by omega
   have eU:l.take k=l:=by
    have:k=l.length:=by rw[hn.out];omega
    rw[this,List.take_length]
   have J0:=hDq eU;clear eU;go_wp2;go_ret;exact⟨by rw[J0.out];rfl,HB.out⟩
theorem ac1 (b off cap n B:Nat) (p:Int) (l:List Cv.ag) (T:TypeId) (v1 v6 v7:Value) (w:World) (hn:Hid (l.length=n)) (hcap:n<=cap) (hl:Hid (ew w b off l)) (he:Hid (gK w T v1 v6 v7)) (hok:Hid (Cv.eJ l)) (hc:w.cell? ⟨B,0,none⟩=some (.int .i64 p)) :
  Calls Tryz.prog 308 #[.slice (some ⟨b,off,none⟩) n cap,.func (.func 310) #[] #[.pointer (some ⟨B,0,none⟩)]] w fun e w'=>e=.returned (.int .i64 (Cv.df (Cv.sB p) l))∧Below w.heap.size w w':=by
 have sV:=hok.out.1;rw[hn.out]at sV;have HR:Hid (∀ k,0<=Cv.df (Cv.sB p) (l.take k)∧Cv.df (Cv.sB p) (l.take k)<=120000):=fun k=>by
  have:=Cv.mA (Cv.sB p) (l.take k) (hok.out.oks.take k)
  have h2:(l.take k).length<=120:=by rw[lKq,hn.out];omega
  omega
 go_enter Tryz.func308,Tryz.ntmps308
 go_wp2_with fail
 refine(RI b off cap n l T v1 v6 v7 w hn hcap hl he hok).mono ?_;rintro e w1 ⟨rfl,hb1⟩;have HB1:=hDq hb1;clear hb1;simp only[];go_wp2
 go_loopw [5,11] (fun s i wr=>∃ k:Nat,k<=n∧i=.int .i64 k∧s=.int .i64 (Cv.df (Cv.sB p) (l.take k))∧Below w.heap.size w wr) (fun _ i _=>n-(intOf i).toNat)
 case atStart=>exact⟨0,Nat.zero_le _,rfl,rfl,HB1.out⟩
 case round =>
  obtain⟨k,hk,rfl,rfl,hb⟩:=hrel;have HB:=hDq hb;clear hb;by_cases hlt:k<n
  ·have aK:(k:Int)<n:=by omega
   obtain⟨c0,c1,c2,c3,c4⟩:=(hl.out.later HB.out) k (by rw[hn.out];exact hlt);have HS:=hDq (Cv.JV (Cv.sB p) (l:=l) (k:=k) (by rw[hn.out];exact hlt));obtain⟨r1,r2⟩:=HR.out k;have aT:=hDq (HR.out (k+1));rw[HS.out]at aT;generalize Cv.df (Cv.sB p) (l.take k)=sk at *;generalize Cv.nth l k=x at *;have hcc:=fun W (h:Below w.heap.size w W)=>ac2 x B p W (cell_later h hc);have vk:=hDq hcc;clear hcc;have fZ:Hid (Below w.heap.size w (wr.alloc (.cells #[.int .i64 x.id,.int .i64 x.ak,.int .i64 x.sd,.int .i64 x.pr,.int .i64 x.q] 197))):=HB.out.alloc HB.out.size _
   go_wp2_with fail
   refine(vk.out _ fZ.out).mono ?_;rintro e w2 ⟨rfl,hb2⟩;have HB2:Hid (Below w.heap.size w w2):=fZ.out.trans (hb2.mono fZ.out.size);have d4:w2.cell? ⟨wr.heap.size,4,none⟩=some (.int .i64 x.q):=by rw[hb2.cell (p:=⟨wr.heap.size,4,none⟩) (by simp)];simp
   clear hb2 c0 c1 c2 c3 c4 vk fZ;cases hp:Cv.sB p x with
   | true =>
    have HS2:=hDq (show Cv.df (Cv.sB p) (l.take (k+1))=sk+x.q by have:=HS.out;rw[hp]at this;simpa using this);have hr2:0<=sk+x.q∧sk+x.q<=120000:=by have:=aT.out;rw[hp]at this;simpa using this
    clear HS aT hp;obtain⟨r3,r4⟩:=hr2;simp only[];go_wp2;exact⟨⟨k+1,by omega,by go_num,by rw[HS2.out],HB2.out⟩,by simp[intOf];omega⟩
   | false =>
    have HS2:=hDq (show Cv.df (Cv.sB p) (l.take (k+1))=sk by have:=HS.out;rw[hp]at this;simpa using this);clear HS aT hp;simp only[];go_wp2;exact⟨⟨k+1,by omega,by go_num,by rw[HS2.out],HB2.out⟩,by simp[intOf];omega⟩
  ·have aK:¬ (k:Int)<n:=by omega
   have eU:l.take k=l:=by
    have:k=l.length:=by rw[hn.out];omega
    rw[this,List.take_length]
   have J0:=hDq eU;clear eU;go_wp2;go_ret;exact⟨by rw[J0.out];rfl,HB.out⟩
def gC (w:World) (v:Value) (l:List Cv.ag):Prop :=
 (l=[]∧∃ a cap,v=.slice a 0 cap)∨∃ b off cap,v=.slice (some ⟨b,off,none⟩) l.length cap∧l.length<=cap∧ew w b off l
theorem gC.later {w w':World} {v:Value} {l:List Cv.ag} (h:gC w v l) (hb:Below w.heap.size w w'):gC w' v l:=by
 rcases h with h | ⟨b,off,cap,h1,h2,h3⟩
 ·exact .inl h
 ·exact .inr ⟨b,off,cap,h1,h2,h3.later hb⟩
theorem Cv.acG:Cv.eJ []:=⟨by simp,fun i hi=>by simp at hi⟩
theorem ac3 (b off cap n:Nat) (p r:Int) (w:World) (HC:Hid (∀ W,W=w.alloc (.cells #[.int .i64 p] 3)->Calls Tryz.prog 308 #[.slice (some ⟨b,off,none⟩) n cap,.func (.func 309) #[] #[.pointer (some ⟨w.heap.size,0,none⟩)]] W fun e w'=>e=.returned (.int .i64 r)∧Below W.heap.size W w')) :
  Calls Tryz.prog 301 #[.slice (some ⟨b,off,none⟩) n cap,.int .i64 p] w fun e w'=>e=.returned (.int .i64 r)∧Below w.heap.size w w':=by
 go_enter Tryz.func301,Tryz.ntmps301
 go_wp2_with fail
 refine(HC.out _ rfl).mono ?_;rintro e w2 ⟨rfl,hb⟩;have HB:=hDq hb;clear hb;simp only[];go_wp2;go_ret;exact⟨rfl,((bRq _ _).alloc (lRq _) _).trans (HB.out.mono (by simp))⟩
theorem ac4 (cap:Nat) (a:Option Addr) (p:Int) (w:World) :
  Calls Tryz.prog 301 #[.slice a 0 cap,.int .i64 p] w fun e w'=>e=.returned (.int .i64 0)∧Below w.heap.size w w':=by
 go_enter Tryz.func301,Tryz.ntmps301
 go_wp2_with fail
 refine(RJ cap a _ _).mono ?_;rintro e w2 ⟨rfl,rfl⟩;simp only[];go_wp2;go_ret;exact⟨rfl,(bRq _ _).alloc (lRq _) _⟩
theorem acL (v:Value) (l:List Cv.ag) (p:Int) (T:TypeId) (v1 v6 v7:Value) (w:World) (hv:gC w v l) (he:Hid (gK w T v1 v6 v7)) (hok:Cv.eJ l) :
  Calls Tryz.prog 301 #[v,.int .i64 p] w fun e w'=>e=.returned (.int .i64 (Cv.iB l p))∧Below w.heap.size w w':=by
 rcases hv with ⟨rfl,a,cap,rfl⟩ | ⟨b,off,cap,rfl,hcap,hl⟩
 ·exact ac4 cap a p w
 ·refine ac3 b off cap _ p _ w (fun W hW=>?_)
  subst hW;exact acZ b off cap l.length w.heap.size p l T v1 v6 v7 _ rfl hcap (hl.later ((bRq _ _).alloc (lRq _) _)) (he.out.later ((bRq _ _).alloc (lRq _) _)) hok (by simp)
theorem ac5 (b off cap n:Nat) (p r:Int) (w:World) (HC:Hid (∀ W,W=w.alloc (.cells #[.int .i64 p] 3)->Calls Tryz.prog 308 #[.slice (some ⟨b,off,none⟩) n cap,.func (.func 310) #[] #[.pointer (some ⟨w.heap.size,0,none⟩)]] W fun e w'=>e=.returned (.int .i64 r)∧Below W.heap.size W w')) :
  Calls Tryz.prog 302 #[.slice (some ⟨b,off,none⟩) n cap,.int .i64 p] w fun e w'=>e=.returned (.int .i64 r)∧Below w.heap.size w w':=by
 go_enter Tryz.func302,Tryz.ntmps302
 go_wp2_with fail
 refine(HC.out _ rfl).mono ?_;rintro e w2 ⟨rfl,hb⟩;have HB:=hDq hb;clear hb;simp only[];go_wp2;go_ret;exact⟨rfl,((bRq _ _).alloc (lRq _) _).trans (HB.out.mono (by simp))⟩
theorem ac6 (cap:Nat) (a:Option Addr) (p:Int) (w:World) :
  Calls Tryz.prog 302 #[.slice a 0 cap,.int .i64 p] w fun e w'=>e=.returned (.int .i64 0)∧Below w.heap.size w w':=by
 go_enter Tryz.func302,Tryz.ntmps302
 go_wp2_with fail
 refine(RJ cap a _ _).mono ?_;rintro e w2 ⟨rfl,rfl⟩;simp only[];go_wp2;go_ret;exact⟨rfl,(bRq _ _).alloc (lRq _) _⟩
theorem acM (v:Value) (l:List Cv.ag) (p:Int) (T:TypeId) (v1 v6 v7:Value) (w:World) (hv:gC w v l) (he:Hid (gK w T v1 v6 v7)) (hok:Cv.eJ l) :
  Calls Tryz.prog 302 #[v,.int .i64 p] w fun e w'=>e=.returned (.int .i64 (Cv.jw l p))∧Below w.heap.size w w':=by
 rcases hv with ⟨rfl,a,cap,rfl⟩ | ⟨b,off,cap,rfl,hcap,hl⟩
 ·exact ac6 cap a p w
 ·refine ac5 b off cap _ p _ w (fun W hW=>?_)
  subst hW;exact ac1 b off cap l.length w.heap.size p l T v1 v6 v7 _ rfl hcap (hl.later ((bRq _ _).alloc (lRq _) _)) (he.out.later ((bRq _ _).alloc (lRq _) _)) hok (by simp)
theorem gC.form {w:World} {v:Value} {l:List Cv.ag} (h:gC w v l):∃ a n cap,v=.slice a n cap:=by
 rcases h with ⟨_,a,cap,rfl⟩ | ⟨b,off,cap,rfl,_⟩
 ·exact⟨_,_,_,rfl⟩
 ·exact⟨_,_,_,rfl⟩
theorem acI (a:Option Addr) (n cap:Nat) (p d s:Int) (w:World)
  (hd:Hid (Calls Tryz.prog 301 #[.slice a n cap,.int .i64 p] w fun e w'=>e=.returned (.int .i64 d)∧Below w.heap.size w w'))
  (hs:Hid (∀ w1,Below w.heap.size w w1->Calls Tryz.prog 302 #[.slice a n cap,.int .i64 p] w1 fun e w'=>e=.returned (.int .i64 s)∧Below w1.heap.size w1 w')) :
  Calls Tryz.prog 286 #[.slice a n cap,.int .i64 p] w fun e w'=>e=.returned (.int .i64 (min d s))∧Below w.heap.size w w':=by
 go_enter Tryz.func286,Tryz.ntmps286
 go_wp2_with fail
 refine hd.out.mono ?_;rintro e w1 ⟨rfl,hb1⟩;have HB1:=hDq hb1;clear hb1;simp only[]
 go_wp2_with fail
 refine(hs.out _ HB1.out).mono ?_;rintro e w2 ⟨rfl,hb2⟩;have HB2:=hDq (HB1.out.trans (hb2.mono HB1.out.size));clear hb2;simp only[];go_wp2
 all_goals go_ret
 all_goals exact⟨kR (by omega),HB2.out⟩
theorem Cv.acJ (l:List Cv.ag) (p:Int) (h:Cv.eJ l):0<=Cv.iB l p∧Cv.iB l p<=120000:=by
 have:=Cv.mA (Cv.gM p) l h.oks
 have h2:=h.1;unfold Cv.iB;omega
theorem acK (v:Value) (l:List Cv.ag) (p:Int) (T:TypeId) (v1 v6 v7:Value) (w:World) (hv:gC w v l) (he:Hid (gK w T v1 v6 v7)) (hok:Cv.eJ l) :
  Calls Tryz.prog 286 #[v,.int .i64 p] w fun e w'=>e=.returned (.int .i64 (Cv.dN l p))∧Below w.heap.size w w':=by
 obtain⟨a,n,cap,rfl⟩:=hv.form;exact acI a n cap p _ _ w (acL _ l p T v1 v6 v7 w hv he hok) (fun w1 hb=>acM _ l p T v1 v6 v7 w1 (hv.later hb) (he.out.later hb) hok)
def dK (x:Cv.ag):List Value:=[.int .i64 x.id,.int .i64 x.ak,.int .i64 x.sd,.int .i64 x.pr,.int .i64 x.q]
def flat (l:List Cv.ag):List Value:=l.flatMap dK
theorem oJ:∀ l:List Cv.ag,(flat l).length=l.length*5
 | []=>rfl
 | x::l=>by
  have:=oJ l
  simp only[flat,List.flatMap_cons,List.length_append,List.length_cons]at this ⊢;rw[this,show (dK x).length=5 from rfl];omega
theorem RH:∀ (l:List Cv.ag) (i j:Nat),i<l.length->j<5->(flat l)[i*5+j]?=(dK (Cv.nth l i))[j]?
 | [],i,j,h,_=>absurd h (Nat.not_lt_zero i)
 | x::l,0,j,_,hj=>by
  show (dK x++flat l)[0*5+j]?=_;rw[Nat.zero_mul,Nat.zero_add,List.getElem?_append_left (by show j<5;exact hj)];rfl
 | x::l,i+1,j,h,hj=>by
  show (dK x++flat l)[(i+1)*5+j]?=_;rw[List.getElem?_append_right (by show 5<=_;omega),show (i+1)*5+j-(dK x).length=i*5+j by show _-5=_;omega,RH l i j (by simpa using h) hj];rfl
theorem QP (l:List Cv.ag) (u:Value) (h:u∈flat l):u.oneCell'=true:=by
 obtain⟨x,_,hx⟩:=List.mem_flatMap.1 h;simp only[dK,List.mem_cons,List.not_mem_nil,or_false]at hx;rcases hx with rfl | rfl | rfl | rfl | rfl <;> rfl
theorem z6 {w:World} {b:Nat} {l:List Cv.ag} (h:∀ j u,(flat l)[j]?=some u->w.cell? ⟨b,j,none⟩=some u):ew w b 0 l:=by
 intro i hi;have key:∀ j u,j<5->(dK (Cv.nth l i))[j]?=some u->w.cell? ⟨b,i*5+j,none⟩=some u:=fun j u hj hu=>h _ u (by rw[RH l i j hi hj];exact hu);rw[Nat.zero_add];exact⟨key 0 _ (by decide) rfl,key 1 _ (by decide) rfl,key 2 _ (by decide) rfl,key 3 _ (by decide) rfl,key 4 _ (by decide) rfl⟩
theorem DT:∃ i z,Tryz.prog.info? 197=some i∧i.zero=some z∧i.size=5∧i.bytes=40∧z.cells.size=5:=⟨_,_,rfl,rfl,rfl,rfl,rfl⟩
structure Only (w w':World) (a b:Option Nat):Prop where
 os:w'.os=w.os
 tape:w'.tape=w.tape
 output:w'.output=w.output
 size:w.heap.size<=w'.heap.size
 block:∀ k,k<w.heap.size->some k≠a->some k≠b->w'.heap[k]?=w.heap[k]?
theorem Only.refl (w:World) (a b:Option Nat):Only w w a b:=⟨rfl,rfl,rfl,lRq _,fun _ _ _ _=>rfl⟩
theorem Only.of_below {w w':World} (h:Below w.heap.size w w') (a b:Option Nat):Only w w' a b:=⟨h.os,h.tape,h.output,h.size,fun k hk _ _=>h.block k hk⟩
theorem Only.jV {w w':World} {r:Option Nat} (h:w.grownBy w' r) (a:Option Nat):Only w w' a r:=⟨h.os,h.tape,h.output,h.size,fun k hk _ h2=>h.block k hk h2⟩
theorem Only.trans {w w1 w2:World} {a b b1:Option Nat} (h:Only w w1 a b) (h1:Only w1 w2 a b1) (hb:∀ k,b1=some k->b=some k∨w.heap.size<=k):Only w w2 a b :=
 ⟨h1.os.trans h.os,h1.tape.trans h.tape,h1.output.trans h.output,lTq h.size h1.size,fun k hk ha hk2=>by
  rw[h1.block k (Nat.lt_of_lt_of_le hk h.size) ha (fun e=>?_)]
  ·exact h.block k hk ha hk2
  ·rcases hb k e.symm with h3 | h3
   ·exact hk2 h3.symm
   ·omega⟩
theorem Only.below {w w':World} {a b:Option Nat} {n:Nat} (h:Only w w' a b) (hn:n<=w.heap.size) (ha:∀ k,a=some k->n<=k) (hb:∀ k,b=some k->n<=k):Below n w w' :=
 ⟨h.os,h.tape,h.output,h.size,fun k hk=>h.block k (by omega) (fun e=>by have:=ha k e.symm;omega) (fun e=>by have:=hb k e.symm;omega)⟩
theorem Only.cell {w w':World} {a b:Option Nat} (h:Only w w' a b) {p:Addr} {v:Value} (hc:w.cell? p=some v) (ha:some p.block≠a) (hb:some p.block≠b):w'.cell? p=some v :=
 (World.cell?_of_block (h.block p.block (bCq w p hc) ha hb)).trans hc
theorem Only.setCell (w:World) (g o:Nat) (v:Value) (b:Option Nat):Only w (w.setCell ⟨g,o,none⟩ v) (some g) b :=
 ⟨rfl,rfl,rfl,by simp,fun k _ ha _=>Below.heap_setCell _ _ _ _ (fun e=>ha (by rw[e]))⟩
theorem Only.swap {w w':World} {a b:Option Nat} (h:Only w w' a b):Only w w' b a:=⟨h.os,h.tape,h.output,h.size,fun k hk h1 h2=>h.block k hk h2 h1⟩
theorem Only.setCells (w:World) (g:Nat):∀ (vs:List Value) (o:Nat) (a:Option Nat),Only w (w.setCells g o vs) a (some g):=by
 intro vs
 induction vs generalizing w with
 | nil=>intro o a;exact Only.refl w _ _
 | cons v vs ih =>
  intro o a;exact(Only.setCell w g o v a).swap.trans (ih (w.setCell ⟨g,o,none⟩ v) (o+1) a) (fun k h=>.inl h)
structure cA (w:World) (base p:Nat) (v:Value) (l:List Cv.ag):Prop where
 cell:w.heap[p]?=some (.cells #[v] 276 (0,0))
 lo:base<=p
 row:w.ownsRow base 197 5 v l.length (flat l)
theorem cA.ne {w:World} {base p:Nat} {v:Value} {l:List Cv.ag} (h:cA w base p v l):v.ownBlock≠some p:=by
 intro e;rcases h.row.2 with ⟨e1,_⟩ | ⟨r,cap,cur,e1,_,hr,_⟩
 ·rw[e1]at e;cases e
 ·rw[e1]at e
  have:r=p:=by simpa [Value.ownBlock] using e
  rw[this,h.cell]at hr;cases hr
theorem cA.lt {w:World} {base p:Nat} {v:Value} {l:List Cv.ag} (h:cA w base p v l):p<w.heap.size:=lBq h.cell
theorem cA.sO {w:World} {base p:Nat} {v:Value} {l:List Cv.ag} (h:cA w base p v l):∀ k,v.ownBlock=some k->base<=k∧k<w.heap.size:=h.row.lt
theorem abP {w w':World} {a b:Option Nat} {base:Nat} {e:TypeId} {s:Nat} {v:Value} {n:Nat} {xs:List Value} (hr:w.ownsRow base e s v n xs) (h:Only w w' a b) (ha:∀ k,v.ownBlock=some k->some k≠a) (hb:∀ k,v.ownBlock=some k->some k≠b):w'.ownsRow base e s v n xs:=by
 refine⟨hr.1,?_⟩;rcases hr.2 with hn | ⟨g,cap,cur,rfl,hg,dF,rest⟩
 ·exact .inl hn
 ·exact .inr ⟨g,cap,cur,rfl,hg,by rw[h.block g (lBq dF) (ha g rfl) (hb g rfl)];exact dF,rest⟩
theorem cA.only {w w':World} {a b:Option Nat} {base p:Nat} {v:Value} {l:List Cv.ag} (h:cA w base p v l) (ho:Only w w' a b) (h1:some p≠a) (h2:some p≠b) (h3:∀ k,v.ownBlock=some k->some k≠a) (h4:∀ k,v.ownBlock=some k->some k≠b):cA w' base p v l :=
 ⟨by rw[ho.block p h.lt h1 h2];exact h.cell,h.lo,abP h.row ho h3 h4⟩
theorem cA.later {w w':World} {base p:Nat} {v:Value} {l:List Cv.ag} (h:cA w base p v l) (hb:Below w.heap.size w w'):cA w' base p v l :=
 h.only (Only.of_below hb none none) (by simp) (by simp) (fun _ _=>by simp) (fun _ _=>by simp)
theorem cA.form {w:World} {base p:Nat} {v:Value} {l:List Cv.ag} (h:cA w base p v l):(v=.slice none 0 0∧l=[])∨∃ g cap,v=.slice (some ⟨g,0,none⟩) l.length cap∧l.length<=cap∧base<=g∧ew w g 0 l:=by
 rcases h.row.2 with ⟨e,e2⟩ | ⟨g,cap,cur,e,hg,dF,hle,_,_,_⟩
 ·exact .inl ⟨e,List.eq_nil_of_length_eq_zero e2⟩
 ·refine .inr ⟨g,cap,e,hle,hg,z6 fun j u hu=>?_⟩
  have:=World.ownsRow.cells h.row (g:=g) (by rw[e];rfl) j u hu
  have hp:(⟨g,0,none⟩:Addr).add j=⟨g,j,none⟩:=by unfold Addr.add;split <;> simp_all
  rwa [hp]at this
structure Step (w w':World) (p:Nat) (v v':Value):Prop where
 only:Only w w' (some p) v.ownBlock
 new:∀ k,v'.ownBlock=some k->v.ownBlock=some k∨w.heap.size<=k
theorem Step.of_below {w w':World} (h:Below w.heap.size w w') (p:Nat) (v:Value):Step w w' p v v:=⟨Only.of_below h _ _,fun _ h=>.inl h⟩
theorem Step.trans {w w1 w2:World} {p:Nat} {v v1 v2:Value} (h:Step w w1 p v v1) (h1:Step w1 w2 p v1 v2):Step w w2 p v v2 :=
 ⟨h.only.trans h1.only h.new,fun k hk=>by
  rcases h1.new k hk with h3 | h3
  ·exact h.new k h3
  ·exact .inr (lTq h.only.size h3)⟩
theorem Step.below {w w':World} {base p:Nat} {v v':Value} {l:List Cv.ag} (h:Step w w' p v v') (hb:cA w base p v l) (n:Nat) (hn:n<=base):Below n w w' :=
 h.only.below (by have:=hb.lo;have:=hb.lt;omega) (fun k e=>by cases e;have:=hb.lo;omega) (fun k e=>by have:=(hb.sO k e).1;omega)
theorem QT {e:TypeId} {fz:Nat×Nat} (g:Nat):∀ (vs:List Value) (o:Nat) (w:World) (cur:Array Value),w.heap[g]?=some (.cells cur e fz)->o+vs.length<=cur.size ->
  ∃ cur',(w.setCells g o vs).heap[g]?=some (.cells cur' e fz)∧cur'.size=cur.size∧cur'.toList=cur.toList.take o++vs++cur.toList.drop (o+vs.length)
 | [],o,w,cur,h,hs=>⟨cur,h,rfl,by simp⟩
 | v::vs,o,w,cur,h,hs=>by
  have hlt:=lBq h;have h':w.heap[g]=.cells cur e fz:=by simpa [Array.getElem?_eq_getElem hlt] using h
  have h1:(w.setCell ⟨g,o,none⟩ v).heap[g]?=some (.cells (cur.setIfInBounds o v) e fz):=by
   show (w.heap.modify g _)[g]?=_;rw[Array.getElem?_eq_getElem (by simpa using hlt),Array.getElem_modify_self,h'];rfl
  simp only[List.length_cons]at hs;obtain⟨cur',a1,a2,a3⟩:=QT g vs (o+1) _ _ h1 (by simp;omega);refine⟨cur',a1,by rw[a2];simp,?_⟩;rw[a3];simp only[List.length_cons,Array.toList_setIfInBounds];have ho:o<cur.toList.length:=by simp;omega
  rw[List.take_succ_eq_append_getElem (by simpa using ho),List.take_set_of_le (lRq o),List.getElem_set_self,List.drop_set_of_lt (by omega),show o+1+vs.length=o+(vs.length+1) by omega];simp
theorem Jw {w:World} {base:Nat} {e:TypeId} {s g n cap:Nat} {xs:List Value} (h:w.ownsRow base e s (.slice (some ⟨g,0,none⟩) n cap) n xs) (o:Nat) (vs:List Value) (m:Nat) (hm:m<=cap) (hv:o+vs.length<=n*s) (ys:List Value) (hy:ys.length=m*s) (hmn:m<=n) (he:(xs.take o++vs++xs.drop (o+vs.length)).take (m*s)=ys) :
  (w.setCells g o vs).ownsRow base e s (.slice (some ⟨g,0,none⟩) m cap) m ys:=by
 rcases h.2 with ⟨e1,_⟩ | ⟨g',cap',cur,e1,hg,dF,h1,h2,h3,h4⟩
 ·cases e1
 ·obtain⟨rfl,rfl⟩:g=g'∧cap=cap':=by simpa using e1
  have hle:n*s<=cur.size:=by rw[h3];exact Nat.mul_le_mul_right _ h1
  obtain⟨cur',a1,a2,a3⟩:=QT g vs o w cur dF (by omega);refine⟨hy,.inr ⟨g,cap,cur',rfl,hg,a1,hm,h2,by rw[a2,h3],?_⟩⟩;have Ae:m*s<=n*s:=Nat.mul_le_mul_right _ hmn;rw[a3,<- he,<- h4];have hx:cur.toList=cur.toList.take (n*s)++cur.toList.drop (n*s):=(List.take_append_drop _ _).symm;have hl:(cur.toList.take (n*s)).length=n*s:=by rw[lKq];simp;omega
  generalize cur.toList.take (n*s)=A at *;generalize cur.toList.drop (n*s)=C at *;have e1:(A++C).take o=A.take o:=List.take_append_of_le_length (by omega);have e2:(A++C).drop (o+vs.length)=A.drop (o+vs.length)++C:=List.drop_append_of_le_length (by omega);rw[hx,e1,e2,<- aAq];exact List.take_append_of_le_length (by simp only[List.length_append,List.length_take,List.length_drop];omega)
namespace Bk
open Cv
def u_ (l:List ag) (id:Int):Int:=if has l id=true then (pos l id:Int) else -1
theorem zW {l:List ag} {id:Int} (h:has l id=false):u_ l id = -1:=by unfold u_;rw[h];rfl
theorem zX {l:List ag} {id:Int} (h:has l id=true):u_ l id=(pos l id:Nat):=by unfold u_;rw[if_pos h]
theorem abL {l:List ag} {id:Int} {k:Nat} (hk:k<l.length) (hn:has (l.take k) id=false) (hx:(nth l k).id=id):u_ l id=(k:Nat):=by
 have h1:has l id=true:=List.any_eq_true.2 ⟨nth l k,nA hk,by simpa using hx⟩;rw[zX h1];have h2:pos l id=k:=by
  unfold pos;rw[List.findIdx_eq hk];refine⟨by rw[<- uZ hk];simpa using hx,fun j hj=>?_⟩
  have:=List.any_eq_false.1 hn l[j] (by rw[List.mem_take_iff_getElem];exact⟨j,by omega,rfl⟩)
  simpa using this
 rw[h2]
theorem Jv {l:List ag} {id:Int} (h:has l id=true):pos l id<l.length:=qI.1 h
end Bk
theorem abM (x:Cv.ag) (B:Nat) (id:Int) (w:World) (hc:w.cell? ⟨B,0,none⟩=some (.int .i64 id)) :
  Calls Tryz.prog 266 #[bJ x,.pointer (some ⟨B,0,none⟩)] w fun e w'=>e=.returned (.bool (x.id==id))∧Below w.heap.size w w':=by
 have hB:B<w.heap.size:=bCq _ _ hc;have hne:B≠w.heap.size:=by omega
 show Calls Tryz.prog 266 #[.agg #[.int .i64 x.id,.int .i64 x.ak,.int .i64 x.sd,.int .i64 x.pr,.int .i64 x.q],.pointer (some ⟨B,0,none⟩)] w _;go_enter Tryz.func266,Tryz.ntmps266;go_wp2
 all_goals go_ret
 all_goals
  refine⟨gB ?_,(bRq _ _).alloc (lRq _) _⟩
  first | rfl | simp_all
theorem abN (b off cap B:Nat) (id:Int) (l:List Cv.ag) (w:World) (hn':l.length<=1000) (hl:Hid (ew w b off l)) (hc:w.cell? ⟨B,0,none⟩=some (.int .i64 id)) :
  Calls Tryz.prog 265 #[.slice (some ⟨b,off,none⟩) l.length cap,.func (.func 266) #[] #[.pointer (some ⟨B,0,none⟩)]] w fun e w'=>e=.returned (.int .i64 (Bk.u_ l id))∧Below w.heap.size w w':=by
 generalize hn:l.length=n at *;have Hn:=hDq hn;clear hn;go_enter Tryz.func265,Tryz.ntmps265;go_wp2
 go_loopw [8] (fun i wr=>∃ k:Nat,k<=n∧i=.int .i64 k∧Cv.has (l.take k) id=false∧Below w.heap.size w wr) (fun i _=>n-(intOf i).toNat)
 case atStart=>exact⟨0,Nat.zero_le _,rfl,rfl,bRq _ _⟩
 case round =>
  obtain⟨k,hk,rfl,hno,hb⟩:=hrel;have HN:=hDq hno;have HB:=hDq hb;clear hno hb;by_cases hlt:k<n
  ·have aK:(k:Int)<n:=by omega
   obtain⟨c0,c1,c2,c3,c4⟩:=(hl.out.later HB.out) k (by rw[Hn.out];exact hlt);have hcB:=cell_later HB.out hc;have HC:=hDq (abM (Cv.nth l k) B id wr hcB);have HT:=hDq (Cv.take_succ (l:=l) (i:=k) (by rw[Hn.out];exact hlt));obtain⟨x,oL⟩:∃ x,Cv.nth l k=x:=⟨_,rfl⟩;rw[oL]at HC HT c0 c1 c2 c3 c4;have HX:=hDq oL;clear oL
   go_wp2_with fail
   refine HC.out.mono ?_;rintro e w2 ⟨rfl,hb2⟩;have HB2:=hDq (HB.out.trans (hb2.mono HB.out.size));clear hb2 c0 c1 c2 c3 c4 hcB HC;by_cases hx:x.id=id
   ·have pZ:(x.id==id)=true:=by simpa using hx
    have Hx:=hDq hx;clear hx;rw[pZ];simp only[];go_wp2;go_ret;refine⟨?_,HB2.out⟩;rw[Bk.abL (by rw[Hn.out];exact hlt) HN.out (by rw[HX.out];exact Hx.out)];rfl
   ·have pZ:(x.id==id)=false:=by simpa using hx
    have Ad:Cv.has (l.take (k+1)) id=false:=by
     have hh:=HN.out;rw[HT.out];unfold Cv.has at hh ⊢;rw[List.any_append,hh];simp[hx]
    have oM:=hDq Ad;clear hx Ad;rw[pZ];simp only[];go_wp2;exact⟨⟨k+1,by omega,by go_num,oM.out,HB2.out⟩,by simp[intOf];omega⟩
  ·have aK:¬ (k:Int)<n:=by omega
   have eU:k=l.length:=by rw[Hn.out];omega
   have hno:=HN.out;rw[eU,List.take_length]at hno;have oM:=hDq hno;clear hno eU;go_wp2;go_ret;exact⟨by rw[Bk.zW oM.out];rfl,HB.out⟩
theorem DJ (p base:Nat) (v:Value) (id:Int) (l:List Cv.ag) (w:World) (hb:Hid (cA w base p v l)) (hn:Hid (l.length<=60)) :
  Calls Tryz.prog 224 #[.pointer (some ⟨p,0,none⟩),.int .i64 id] w fun e w'=>e=.returned (.int .i64 (Bk.u_ l id))∧Below w.heap.size w w':=by
 have hcell:(w.alloc (.cells #[.int .i64 id] 3)).cell? ⟨p,0,none⟩=some v:=cell_later ((bRq _ _).alloc (lRq _) _) (cell_of_one hb.out.cell);rcases hb.out.form with ⟨rfl,hl⟩ | ⟨g,cap,rfl,hle,_,hl⟩
 ·have HL:=hDq hl
  clear hl;go_enter Tryz.func224,Tryz.ntmps224
  go_wp2_with fail
  refine(abO 0 none _ _).mono ?_;rintro e w2 ⟨rfl,rfl⟩;simp only[];go_wp2;go_ret;exact⟨by rw[HL.out];rfl,(bRq _ _).alloc (lRq _) _⟩
 ·have HC:=hDq (abN g 0 cap w.heap.size id l (w.alloc (.cells #[.int .i64 id] 3)) (by have:=hn.out;omega) (hl.later ((bRq _ _).alloc (lRq _) _)) (by simp))
  clear hl hle;go_enter Tryz.func224,Tryz.ntmps224
  go_wp2_with fail
  refine HC.out.mono ?_;rintro e w2 ⟨rfl,hb2⟩;have HB:=hDq hb2;clear hb2;simp only[];go_wp2;go_ret;exact⟨rfl,((bRq _ _).alloc (lRq _) _).trans (HB.out.mono (by simp))⟩
theorem JD (w:World):Calls Tryz.prog 162 #[] w fun e w'=>e=.returned (.pointer (some ⟨w.heap.size,0,none⟩))∧w'=w.alloc (.cells #[.slice none 0 0] 276):=by
 go_enter Tryz.func162,Tryz.ntmps162;go_wp2;go_ret;exact⟨rfl,rfl⟩
theorem Jy (v:Value) (l:List Cv.ag) (T:TypeId) (v1 v6 v7:Value) (w:World) (hv:gC w v l) (he:Hid (gK w T v1 v6 v7)) (hok:Cv.eJ l) :
  Calls Tryz.prog 250 #[v] w fun e w'=>e=.returned .nilIface∧Below w.heap.size w w':=by
 rcases hv with ⟨rfl,a,cap,rfl⟩ | ⟨b,off,cap,rfl,hcap,hl⟩
 ·refine(RD cap a w).mono ?_
  rintro e w' ⟨rfl,rfl⟩;exact⟨rfl,bRq _ _⟩
 ·exact RE b off cap _ l T v1 v6 v7 w rfl hcap hl he hok
theorem abA (v:Value) (l:List Cv.ag) (T:TypeId) (v1 v6 v7:Value) (w:World) (hv:gC w v l) (he:Hid (gK w T v1 v6 v7)) (lM:¬ Cv.eJ l) :
  Calls Tryz.prog 250 #[v] w fun e w'=>(∃ U x,e=.returned (.iface U x))∧Below w.heap.size w w':=by
 rcases hv with ⟨rfl,a,cap,rfl⟩ | ⟨b,off,cap,rfl,hcap,hl⟩
 ·exact absurd Cv.acG lM
 ·exact acH b off cap _ l T v1 v6 v7 w rfl hcap hl he lM
theorem abq (a b:Int) (w:World) (h1:-1000000<=a) (h2:a<=1000000) (h3:-1000000<=b) (h4:b<=1000000):Calls Tryz.prog 253 #[.int .i64 a,.int .i64 b] w fun e w'=>e=.returned (.int .i64 (Cv.size (a-b)))∧w'=w:=by
 go_enter Tryz.func253,Tryz.ntmps253;go_wp2
 all_goals go_ret
 all_goals exact⟨kR (by unfold Cv.size;omega),rfl⟩
theorem QB (n:Int) (w:World):Calls Tryz.prog 285 #[.int .i64 n] w fun e w'=>e=.returned (.bool (ah.aC n 1 1000))∧w'=w:=by
 go_enter Tryz.func285,Tryz.ntmps285
 go_wp2_with (go_at_call 160;refine(fY _ _ _ _).mono ?_;rintro e w' ⟨rfl,rfl⟩)
 go_ret;exact⟨rfl,rfl⟩
structure mq (w:World) (T:TypeId) (v1:Value):Prop where
 c1:w.cell? ⟨1,0,none⟩=some (.iface T v1)
theorem mq.later {w w':World} {T:TypeId} {v1:Value} (h:mq w T v1) (hb:Below w.heap.size w w'):mq w' T v1:=⟨cell_later hb h.c1⟩
def dx (r l:Int):Value:=.agg #[.int .i64 r,.int .i64 l]
def kT (T:TypeId) (v:Value) (b:Bool):Value:=if b=true then .nilIface else .iface T v
theorem abn (r l:Int) (T:TypeId) (v1:Value) (w:World) (he:Hid (mq w T v1)) :
  Calls Tryz.prog 284 #[dx r l] w fun e w'=>e=.returned (kT T v1 (aO.kz r l))∧Below w.heap.size w w':=by
 show Calls Tryz.prog 284 #[.agg #[.int .i64 r,.int .i64 l]] w _;have hb0:Below w.heap.size w (w.alloc (.cells #[.int .i64 r,.int .i64 l] 192)):=(bRq _ _).alloc (lRq _) _;have e1:=(he.out.later hb0).c1;have HB:=hDq hb0;clear hb0;go_enter Tryz.func284,Tryz.ntmps284;cases h1:ah.aC r 1 1000 <;> cases h2:ah.aC l 0 1000
 all_goals
  go_wp2_with (first | (go_at_call 285;refine(QB _ _).mono ?_;rintro e w' ⟨rfl,rfl⟩;rw[h1]) | (go_at_call 160;refine(fY _ _ _ _).mono ?_;rintro e w' ⟨rfl,rfl⟩;rw[h2]))
  all_goals go_ret
  all_goals exact⟨by simp[kT,aO.kz,h1,h2],HB.out⟩
theorem QA (r l:Int) (T:TypeId) (v1:Value) (w:World) (he:Hid (mq w T v1)) :
  Calls Tryz.prog 159 #[dx r l] w fun e w'=>e=.returned (kT T v1 (aO.iz r l))∧Below w.heap.size w w':=by
 show Calls Tryz.prog 159 #[.agg #[.int .i64 r,.int .i64 l]] w _;have hb0:Below w.heap.size w (w.alloc (.cells #[.int .i64 r,.int .i64 l] 43)):=(bRq _ _).alloc (lRq _) _;have e1:=(he.out.later hb0).c1;have HB:=hDq hb0;clear hb0;go_enter Tryz.func159,Tryz.ntmps159;cases h1:ah.aC r 0 100 <;> cases h2:ah.aC l 1 1000
 all_goals
  go_wp2_with (go_at_call 160;refine(fY _ _ _ _).mono ?_;rintro e w' ⟨rfl,rfl⟩;first | rw[h1] | rw[h2])
  all_goals go_ret
  all_goals exact⟨by simp[kT,aO.iz,h1,h2],HB.out⟩
theorem abp (wd h r p:Int) (w:World) (h1:1<=r) (h2:r<=1000) (h3:0<=wd) (h4:wd<=100) (h5:1<=p) (h6:p<=1000) :
  Calls Tryz.prog 257 #[dx wd h,.int .i64 r,.int .i64 p] w fun e w'=>e=.returned (.bool (aO.uV wd r p))∧Below w.heap.size w w':=by
 show Calls Tryz.prog 257 #[.agg #[.int .i64 wd,.int .i64 h],.int .i64 r,.int .i64 p] w _;have HB:Hid (Below w.heap.size w (w.alloc (.cells #[.int .i64 wd,.int .i64 h] 43))):=(bRq _ _).alloc (lRq _) _;have hp:=abm h1 h2 h3 h4;have w1:IntKind.i64.wrap (r*wd)=r*wd:=IntWalk.i64_in _ (by omega);have hs:0<=Cv.size (p-r)∧Cv.size (p-r)<=1000:=by unfold Cv.size;omega
 have w2:IntKind.i64.wrap (Cv.size (p-r)*100)=Cv.size (p-r)*100:=IntWalk.i64_in _ (by omega);have n1:¬ wd < -1:=by omega
 have n2:¬ 100000<wd:=by omega
 go_enter Tryz.func257,Tryz.ntmps257
 go_wp2_with (go_at_call 253;refine(abq _ _ _ (by omega) (by omega) (by omega) (by omega)).mono ?_;rintro e w' ⟨rfl,rfl⟩)
 all_goals go_ret
 all_goals first | exact⟨rfl,HB.out⟩ | exact⟨gB (by simp[aO.uV]),HB.out⟩
theorem Qz (r l wd h p v:Int) (T:TypeId) (v1:Value) (w:World) (he:Hid (mq w T v1)) :
  Calls Tryz.prog 255 #[dx r l,dx wd h,.int .i64 p,.int .i64 v] w fun e w'=>e=.returned (kT T v1 (aO.kz r l&&(aO.iz wd h&&aO.mo p v)))∧Below w.heap.size w w':=by
 show Calls Tryz.prog 255 #[.agg #[.int .i64 r,.int .i64 l],.agg #[.int .i64 wd,.int .i64 h],.int .i64 p,.int .i64 v] w _;obtain⟨W,fu⟩:∃ W,(w.alloc (.cells #[.int .i64 r,.int .i64 l] 192)).alloc (.cells #[.int .i64 wd,.int .i64 h] 43)=W:=⟨_,rfl⟩;have hb1:Below w.heap.size w (w.alloc (.cells #[.int .i64 r,.int .i64 l] 192)):=(bRq _ _).alloc (lRq _) _;have hb2:Below w.heap.size w W:=by rw[<- fu];exact hb1.alloc hb1.size _
 have lJ:W.heap[w.heap.size+1]?=some (.cells #[.int .i64 wd,.int .i64 h] 43 (0,0)):=by
  rw[<- fu]
  have:=hNq (w.alloc (.cells #[.int .i64 r,.int .i64 l] 192)) (.cells #[.int .i64 wd,.int .i64 h] 43)
  rw[show (w.alloc (.cells #[.int .i64 r,.int .i64 l] 192)).heap.size=w.heap.size+1 by simp]at this;exact this
 have gJ:=hDq lJ;have bz:=hDq hb2;have HC:=hDq (abn r l T v1 W (he.out.later hb2));unfold dx at HC;have iI:=hDq fu;clear hb1 hb2 lJ fu;go_enter Tryz.func255,Tryz.ntmps255
 go_wp2_with fail
 rw[iI.out];clear iI;refine HC.out.mono ?_;rintro e w2 ⟨rfl,hb2⟩;have HB:Hid (Below w.heap.size w w2):=bz.out.trans (hb2.mono bz.out.size);have hY:w2.heap[w.heap.size+1]?=some (.cells #[.int .i64 wd,.int .i64 h] 43 (0,0)):=by rw[hb2.block _ (Array.getElem?_eq_some_iff.1 gJ.out).1];exact gJ.out
 have y0:w2.cell? ⟨w.heap.size+1,0,none⟩=some (.int .i64 wd):=by rw[cR w2 _ 0 _ _ _ hY];rfl
 have y1:w2.cell? ⟨w.heap.size+1,1,none⟩=some (.int .i64 h):=by rw[cR w2 _ 1 _ _ _ hY];rfl
 clear hb2 HC bz gJ hY;cases hb:aO.kz r l with
 | false =>
  have Hb:=hDq hb;clear hb;simp only[kT,if_neg Bool.false_ne_true];go_wp2;go_ret;exact⟨by rw[Hb.out];rfl,HB.out⟩
 | true =>
  have Hb:=hDq hb;clear hb;have HC:=hDq (QA wd h T v1 w2 (he.out.later HB.out));unfold dx at HC;simp only[kT,if_pos]
  go_wp2_with fail
  refine HC.out.mono ?_;rintro e w3 ⟨rfl,hb3⟩;have au:Hid (Below w.heap.size w w3):=HB.out.trans (hb3.mono HB.out.size);clear hb3 HC HB y0 y1;cases hr:aO.iz wd h with
  | false =>
   have uW:=hDq hr;clear hr;simp only[kT,if_neg Bool.false_ne_true];go_wp2;go_ret;exact⟨by rw[Hb.out,uW.out];rfl,au.out⟩
  | true =>
   have uW:=hDq hr;clear hr;have e1:=(he.out.later au.out).c1;simp only[kT,if_pos];by_cases hv:v<0
   ·have gX:decide (v<0)=true:=by simpa using hv
    go_wp2_with fail
    all_goals go_ret
    all_goals exact⟨by rw[Hb.out,uW.out];simp[kT,aO.mo,gX],au.out⟩
   ·have gX:decide (v<0)=false:=by simpa using hv
    by_cases hp:0<v
    ·have Jt:decide (0<v)=true:=by simpa using hp
     cases hw:ah.aC p 1 1000
     all_goals
      go_wp2_with (go_at_call 285;refine(QB _ _).mono ?_;rintro e w' ⟨rfl,rfl⟩;rw[hw])
      all_goals go_ret
      all_goals exact⟨by rw[Hb.out,uW.out];simp[kT,aO.mo,gX,Jt,hw],au.out⟩
    ·have Jt:decide (0<v)=false:=by simpa using hp
     go_wp2_with fail
     all_goals go_ret
     all_goals exact⟨by rw[Hb.out,uW.out];simp[kT,aO.mo,gX,Jt],au.out⟩
theorem abo (r l p:Int) (t:Bool) (w:World) (h1:0<l) (h2:l<=1000) :
  Calls Tryz.prog 256 #[dx r l,.int .i64 p,.bool t] w fun e w'=>e=.returned (dx (if l=1∧t=true then p else r) (l-1))∧Below w.heap.size w w':=by
 show Calls Tryz.prog 256 #[.agg #[.int .i64 r,.int .i64 l],.int .i64 p,.bool t] w _;have wl:IntKind.i64.wrap (l-1)=l-1:=IntWalk.i64_in _ (by omega);have HA:Hid (∀ x y,Below w.heap.size w ((w.alloc x).alloc y)):=fun x y=>((bRq _ _).alloc (lRq _) x).alloc (by simp) y;by_cases hl:l=1
 ·subst hl
  cases t
  ·go_enter Tryz.func256,Tryz.ntmps256
   go_wp2;exact bodyPost_ret (v:=dx r 0) (by simp[results,Tryz.results256,go_sem,dx]) rfl ⟨rfl,HA.out _ _⟩
  ·go_enter Tryz.func256,Tryz.ntmps256
   go_wp2;exact bodyPost_ret (v:=dx p 0) (by simp[results,Tryz.results256,go_sem,dx]) rfl ⟨rfl,HA.out _ _⟩
 ·have hl':¬ l-1=0:=by omega
  go_enter Tryz.func256,Tryz.ntmps256;go_wp2;exact bodyPost_ret (v:=dx r (l-1)) (by simp[results,Tryz.results256,go_sem,dx]) rfl ⟨rfl,HA.out _ _⟩
def oG (r l wd h p v:Int):Value:=.tuple #[dx (aO.nt r l wd p v) (aO.nu r l wd h p v),.bool (aO.nx r l wd p v),.nilIface]
theorem anE (r l wd h p v:Int) (T:TypeId) (v1:Value) (w:World) (he:Hid (mq w T v1)) (hk:(aO.kz r l&&(aO.iz wd h&&aO.mo p v))=false) :
  Calls Tryz.prog 221 #[dx r l,dx wd h,.int .i64 p,.int .i64 v] w fun e w'=>e=.returned (.tuple #[dx 0 0,.bool false,.iface T v1])∧Below w.heap.size w w':=by
 obtain⟨W,fu⟩:∃ W,((w.alloc (.cells #[.int .i64 r,.int .i64 l] 192)).alloc (.cells #[.int .i64 wd,.int .i64 h] 43)).alloc (.cells #[.int .i64 0,.int .i64 0] 192)=W:=⟨_,rfl⟩;have hb2:Below w.heap.size w W:=by rw[<- fu];exact(((bRq _ _).alloc (lRq _) _).alloc (by simp) _).alloc (by simp;omega) _
 have lJ:W.heap[w.heap.size+1+1]?=some (.cells #[.int .i64 0,.int .i64 0] 192 (0,0)):=by
  rw[<- fu]
  have:=hNq ((w.alloc (.cells #[.int .i64 r,.int .i64 l] 192)).alloc (.cells #[.int .i64 wd,.int .i64 h] 43)) (.cells #[.int .i64 0,.int .i64 0] 192)
  rw[show ((w.alloc (.cells #[.int .i64 r,.int .i64 l] 192)).alloc (.cells #[.int .i64 wd,.int .i64 h] 43)).heap.size=w.heap.size+1+1 by simp]at this;exact this
 have HC:=hDq (Qz r l wd h p v T v1 W (he.out.later hb2));rw[hk]at HC;unfold dx at HC ⊢;have gJ:=hDq lJ;have bz:=hDq hb2;have iI:=hDq fu;clear hb2 lJ fu hk;go_enter Tryz.func221,Tryz.ntmps221
 go_wp2_with fail
 rw[iI.out];clear iI;refine HC.out.mono ?_;rintro e w2 ⟨rfl,hb2⟩;have HB:Hid (Below w.heap.size w w2):=bz.out.trans (hb2.mono bz.out.size);have hY:w2.heap[w.heap.size+1+1]?=some (.cells #[.int .i64 0,.int .i64 0] 192 (0,0)):=by rw[hb2.block _ (Array.getElem?_eq_some_iff.1 gJ.out).1];exact gJ.out
 have y0:w2.cell? ⟨w.heap.size+1+1,0,none⟩=some (.int .i64 0):=by rw[cR w2 _ 0 _ _ _ hY];rfl
 have y1:w2.cell? ⟨w.heap.size+1+1,1,none⟩=some (.int .i64 0):=by rw[cR w2 _ 1 _ _ _ hY];rfl
 have z0:w2.frozen? ⟨w.heap.size+1+1,0,none⟩=false:=by simp[World.frozen?,hY]
 have cK:w2.frozen? ⟨w.heap.size+1+1,1,none⟩=false:=by simp[World.frozen?,hY]
 clear hb2 HC bz gJ hY;simp only[kT,if_neg Bool.false_ne_true];go_wp2;exact bodyPost_ret (v:=.tuple #[.agg #[.int .i64 0,.int .i64 0],.bool false,.iface T v1]) (by simp[results,Tryz.results221,go_sem,y0,y1]) rfl ⟨rfl,(HB.out.setCell (by simp;omega) _).setCell (by simp;omega) _⟩
theorem QC (r l wd h p v:Int) (T:TypeId) (v1:Value) (w:World) (he:Hid (mq w T v1)) (hk:(aO.kz r l&&(aO.iz wd h&&aO.mo p v))=true) :
  Calls Tryz.prog 221 #[dx r l,dx wd h,.int .i64 p,.int .i64 v] w fun e w'=>e=.returned (oG r l wd h p v)∧Below w.heap.size w w':=by
 obtain⟨W,fu⟩:∃ W,((w.alloc (.cells #[.int .i64 r,.int .i64 l] 192)).alloc (.cells #[.int .i64 wd,.int .i64 h] 43)).alloc (.cells #[.int .i64 0,.int .i64 0] 192)=W:=⟨_,rfl⟩;have hb2:Below w.heap.size w W:=by rw[<- fu];exact(((bRq _ _).alloc (lRq _) _).alloc (by simp) _).alloc (by simp;omega) _
 have oH:W.heap[w.heap.size]?=some (.cells #[.int .i64 r,.int .i64 l] 192 (0,0)):=by
  rw[<- fu];exact(Below.heap_alloc _ _ _ (by simp;omega)).trans ((Below.heap_alloc _ _ _ (by simp)).trans (hNq _ _))
 have QD:W.heap[w.heap.size+1]?=some (.cells #[.int .i64 wd,.int .i64 h] 43 (0,0)):=by
  rw[<- fu];refine(Below.heap_alloc _ _ _ (by simp)).trans ?_
  have:=hNq (w.alloc (.cells #[.int .i64 r,.int .i64 l] 192)) (.cells #[.int .i64 wd,.int .i64 h] 43)
  rw[show (w.alloc (.cells #[.int .i64 r,.int .i64 l] 192)).heap.size=w.heap.size+1 by simp]at this;exact this
 have lJ:W.heap[w.heap.size+1+1]?=some (.cells #[.int .i64 0,.int .i64 0] 192 (0,0)):=by
  rw[<- fu]
  have:=hNq ((w.alloc (.cells #[.int .i64 r,.int .i64 l] 192)).alloc (.cells #[.int .i64 wd,.int .i64 h] 43)) (.cells #[.int .i64 0,.int .i64 0] 192)
  rw[show ((w.alloc (.cells #[.int .i64 r,.int .i64 l] 192)).alloc (.cells #[.int .i64 wd,.int .i64 h] 43)).heap.size=w.heap.size+1+1 by simp]at this;exact this
 have HC:=hDq (Qz r l wd h p v T v1 W (he.out.later hb2));rw[hk]at HC;have hk':((1<=r∧r<=1000)∧0<=l∧l<=1000)∧((0<=wd∧wd<=100)∧1<=h∧h<=1000)∧0<=v∧(v<=0∨1<=p∧p<=1000):=by
  simpa [aO.kz,aO.iz,aO.mo,ah.aC] using hk
 obtain⟨⟨⟨r1,r2⟩,l1,l2⟩,⟨⟨kU,wd2⟩,h1,h2⟩,anF,anG⟩:=hk';unfold dx at HC ⊢;have HX0:=hDq oH;have Ju:=hDq QD;have gJ:=hDq lJ;have bz:=hDq hb2;have iI:=hDq fu;clear hb2 oH QD lJ fu hk;go_enter Tryz.func221,Tryz.ntmps221
 go_wp2_with fail
 rw[iI.out];clear iI;refine HC.out.mono ?_;rintro e w2 ⟨rfl,hb2⟩;have HB:Hid (Below w.heap.size w w2):=bz.out.trans (hb2.mono bz.out.size);have hX:w2.heap[w.heap.size]?=some (.cells #[.int .i64 r,.int .i64 l] 192 (0,0)):=by rw[hb2.block _ (Array.getElem?_eq_some_iff.1 HX0.out).1];exact HX0.out
 have hU:w2.heap[w.heap.size+1]?=some (.cells #[.int .i64 wd,.int .i64 h] 43 (0,0)):=by rw[hb2.block _ (Array.getElem?_eq_some_iff.1 Ju.out).1];exact Ju.out
 have hY:w2.heap[w.heap.size+1+1]?=some (.cells #[.int .i64 0,.int .i64 0] 192 (0,0)):=by rw[hb2.block _ (Array.getElem?_eq_some_iff.1 gJ.out).1];exact gJ.out
 have HX:=hDq hX;have HU:=hDq hU;have dJ:=hDq hY;clear hb2 HC bz HX0 Ju gJ hX hU hY;obtain⟨B,hB⟩:∃ B,w.heap.size=B:=⟨_,rfl⟩;rw[hB]at HX HU dJ ⊢;have kV:=hDq hB;clear hB;have x0:w2.cell? ⟨B,0,none⟩=some (.int .i64 r):=by rw[cR w2 _ 0 _ _ _ HX.out];rfl
 have x1:w2.cell? ⟨B,1,none⟩=some (.int .i64 l):=by rw[cR w2 _ 1 _ _ _ HX.out];rfl
 have u0:w2.cell? ⟨B+1,0,none⟩=some (.int .i64 wd):=by rw[cR w2 _ 0 _ _ _ HU.out];rfl
 have u1:w2.cell? ⟨B+1,1,none⟩=some (.int .i64 h):=by rw[cR w2 _ 1 _ _ _ HU.out];rfl
 simp only[kT,if_pos];have cV:Hid (∀ W:World,Below w.heap.size w W->∀ (q1 q2:Addr) (x1 x2:Value),B<=q1.block->B<=q2.block->Below w.heap.size w ((W.setCell q1 x1).setCell q2 x2)):=fun W hb q1 q2 x1 x2 g1 g2 =>
  (hb.setCell (by rw[kV.out];exact g1) _).setCell (by rw[kV.out];exact g2) _
 by_cases hl:0<l
 ·have HG:=hDq (fun W=>abo r l p (decide (0<v)) W hl l2)
  unfold dx at HG;have oI:oG r l wd h p v=.tuple #[.agg #[.int .i64 (if l=1∧decide (0<v)=true then p else r),.int .i64 (l-1)],.bool false,.nilIface]:=by
   simp[oG,dx,aO.nt,aO.nu,aO.nx,hl]
  have qE:=hDq oI;clear oI;generalize (if l=1∧decide (0<v)=true then p else r)=nr at HG qE;have HN:=qE;by_cases hv:0<v
  all_goals
   first | (have gX:decide (0<v)=true:=(by simpa using hv);rw[gX]at HG) | (have gX:decide (0<v)=false:=(by simpa using hv);rw[gX]at HG)
   go_wp2_with fail
   refine(HG.out _).mono ?_;rintro e w3 ⟨rfl,hb3⟩;have au:Hid (Below w.heap.size w w3):=HB.out.trans (hb3.mono HB.out.size);have hY:w3.heap[B+1+1]?=some (.cells #[.int .i64 0,.int .i64 0] 192 (0,0)):=by rw[hb3.block _ (Array.getElem?_eq_some_iff.1 dJ.out).1];exact dJ.out
   have y0:w3.cell? ⟨B+1+1,0,none⟩=some (.int .i64 0):=by rw[cR w3 _ 0 _ _ _ hY];rfl
   have y1:w3.cell? ⟨B+1+1,1,none⟩=some (.int .i64 0):=by rw[cR w3 _ 1 _ _ _ hY];rfl
   have z0:w3.frozen? ⟨B+1+1,0,none⟩=false:=by simp[World.frozen?,hY]
   have cK:w3.frozen? ⟨B+1+1,1,none⟩=false:=by simp[World.frozen?,hY]
   clear hb3 HG x0 x1 u0 u1 hY HX HU dJ HB;simp only[];go_wp2;exact bodyPost_ret (v:=.tuple #[.agg #[.int .i64 nr,.int .i64 (l-1)],.bool false,.nilIface]) (by simp[results,Tryz.results221,go_sem,y0,y1]) rfl ⟨by rw[qE.out],cV.out _ au.out _ _ _ _ (by simp;omega) (by simp;omega)⟩
 ·obtain rfl:l=0:=by omega
  have kW:w2.cell? ⟨B+1+1,0,none⟩=some (.int .i64 0):=by rw[cR w2 _ 0 _ _ _ dJ.out];rfl
  by_cases hv:0<v
  ·have gX:decide (0<v)=true:=by simpa using hv
   have hp:1<=p∧p<=1000:=by omega
   have HG:=hDq (fun W=>abp wd h r p W r1 r2 kU wd2 hp.1 hp.2);unfold dx at HG;cases hin:aO.uV wd r p with
   | false =>
    have oI:oG r 0 wd h p v=.tuple #[.agg #[.int .i64 r,.int .i64 h],.bool false,.nilIface]:=by
     simp[oG,dx,aO.nt,aO.nu,aO.nx,hin,hv]
    have qE:=hDq oI;rw[hin]at HG;clear oI hin
    go_wp2_with fail
    refine(HG.out _).mono ?_;rintro e w3 ⟨rfl,hb3⟩;have au:Hid (Below w.heap.size w w3):=HB.out.trans (hb3.mono HB.out.size);have hX:w3.heap[B]?=some (.cells #[.int .i64 r,.int .i64 0] 192 (0,0)):=by rw[hb3.block _ (Array.getElem?_eq_some_iff.1 HX.out).1];exact HX.out
    have hU:w3.heap[B+1]?=some (.cells #[.int .i64 wd,.int .i64 h] 43 (0,0)):=by rw[hb3.block _ (Array.getElem?_eq_some_iff.1 HU.out).1];exact HU.out
    have hY:w3.heap[B+1+1]?=some (.cells #[.int .i64 0,.int .i64 0] 192 (0,0)):=by rw[hb3.block _ (Array.getElem?_eq_some_iff.1 dJ.out).1];exact dJ.out
    clear x0 x1 u0 u1 kW;have x0:w3.cell? ⟨B,0,none⟩=some (.int .i64 r):=by rw[cR w3 _ 0 _ _ _ hX];rfl
    have x1:w3.cell? ⟨B,1,none⟩=some (.int .i64 0):=by rw[cR w3 _ 1 _ _ _ hX];rfl
    have u1:w3.cell? ⟨B+1,1,none⟩=some (.int .i64 h):=by rw[cR w3 _ 1 _ _ _ hU];rfl
    have y0:w3.cell? ⟨B+1+1,0,none⟩=some (.int .i64 0):=by rw[cR w3 _ 0 _ _ _ hY];rfl
    have y1:w3.cell? ⟨B+1+1,1,none⟩=some (.int .i64 0):=by rw[cR w3 _ 1 _ _ _ hY];rfl
    have z0:w3.frozen? ⟨B+1+1,0,none⟩=false:=by simp[World.frozen?,hY]
    have cK:w3.frozen? ⟨B+1+1,1,none⟩=false:=by simp[World.frozen?,hY]
    have f0:w3.frozen? ⟨B,0,none⟩=false:=by simp[World.frozen?,hX]
    have f1:w3.frozen? ⟨B,1,none⟩=false:=by simp[World.frozen?,hX]
    clear hb3 HG hX hU hY HX HU dJ HB;simp only[];go_wp2;exact bodyPost_ret (v:=.tuple #[.agg #[.int .i64 r,.int .i64 h],.bool false,.nilIface]) (by simp[results,Tryz.results221,go_sem,y0,y1]) rfl ⟨by rw[qE.out],cV.out _ (au.out.setCell (by rw[kV.out];exact lRq _) _) _ _ _ _ (by simp;omega) (by simp;omega)⟩
   | true =>
    have oI:oG r 0 wd h p v=.tuple #[.agg #[.int .i64 p,.int .i64 0],.bool true,.nilIface]:=by
     simp[oG,dx,aO.nt,aO.nu,aO.nx,hin,hv]
    have qE:=hDq oI;rw[hin]at HG;clear oI hin
    go_wp2_with fail
    refine(HG.out _).mono ?_;rintro e w3 ⟨rfl,hb3⟩;have au:Hid (Below w.heap.size w w3):=HB.out.trans (hb3.mono HB.out.size);have hX:w3.heap[B]?=some (.cells #[.int .i64 r,.int .i64 0] 192 (0,0)):=by rw[hb3.block _ (Array.getElem?_eq_some_iff.1 HX.out).1];exact HX.out
    have hU:w3.heap[B+1]?=some (.cells #[.int .i64 wd,.int .i64 h] 43 (0,0)):=by rw[hb3.block _ (Array.getElem?_eq_some_iff.1 HU.out).1];exact HU.out
    have hY:w3.heap[B+1+1]?=some (.cells #[.int .i64 0,.int .i64 0] 192 (0,0)):=by rw[hb3.block _ (Array.getElem?_eq_some_iff.1 dJ.out).1];exact dJ.out
    clear x0 x1 u0 u1 kW;have x0:w3.cell? ⟨B,0,none⟩=some (.int .i64 r):=by rw[cR w3 _ 0 _ _ _ hX];rfl
    have x1:w3.cell? ⟨B,1,none⟩=some (.int .i64 0):=by rw[cR w3 _ 1 _ _ _ hX];rfl
    have u1:w3.cell? ⟨B+1,1,none⟩=some (.int .i64 h):=by rw[cR w3 _ 1 _ _ _ hU];rfl
    have y0:w3.cell? ⟨B+1+1,0,none⟩=some (.int .i64 0):=by rw[cR w3 _ 0 _ _ _ hY];rfl
    have y1:w3.cell? ⟨B+1+1,1,none⟩=some (.int .i64 0):=by rw[cR w3 _ 1 _ _ _ hY];rfl
    have z0:w3.frozen? ⟨B+1+1,0,none⟩=false:=by simp[World.frozen?,hY]
    have cK:w3.frozen? ⟨B+1+1,1,none⟩=false:=by simp[World.frozen?,hY]
    have f0:w3.frozen? ⟨B,0,none⟩=false:=by simp[World.frozen?,hX]
    have f1:w3.frozen? ⟨B,1,none⟩=false:=by simp[World.frozen?,hX]
    clear hb3 HG hX hU hY HX HU dJ HB;simp only[];go_wp2;exact bodyPost_ret (v:=.tuple #[.agg #[.int .i64 p,.int .i64 0],.bool true,.nilIface]) (by simp[results,Tryz.results221,go_sem,y0,y1]) rfl ⟨by rw[qE.out],cV.out _ (au.out.setCell (by rw[kV.out];exact lRq _) _) _ _ _ _ (by simp;omega) (by simp;omega)⟩
  ·have gX:decide (0<v)=false:=by simpa using hv
   have oI:oG r 0 wd h p v=.tuple #[.agg #[.int .i64 r,.int .i64 0],.bool true,.nilIface]:=by
    simp[oG,dx,aO.nt,aO.nu,aO.nx,hv]
   have qE:=hDq oI;have y1:w2.cell? ⟨B+1+1,1,none⟩=some (.int .i64 0):=by rw[cR w2 _ 1 _ _ _ dJ.out];rfl
   have z0:w2.frozen? ⟨B+1+1,0,none⟩=false:=by simp[World.frozen?,dJ.out]
   have cK:w2.frozen? ⟨B+1+1,1,none⟩=false:=by simp[World.frozen?,dJ.out]
   clear oI;go_wp2;exact bodyPost_ret (v:=.tuple #[.agg #[.int .i64 r,.int .i64 0],.bool true,.nilIface]) (by simp[results,Tryz.results221,go_sem,kW,y1]) rfl ⟨by rw[qE.out],cV.out _ HB.out _ _ _ _ (by simp;omega) (by simp;omega)⟩
def ft:Value:=.agg #[.int .u8 0,.int .i64 0,.int .i64 0,.int .i64 0,.int .i64 0,.int .i64 0,.int .i64 0,.int .i64 0]
def nk (s:ByteArray):Value:=.agg #[.int .u8 (az s 0),.int .i64 (az s 1),.int .i64 (av s 2),.int .i64 (az s 6),.int .i64 (az s 7),.int .i64 (av s 8),.int .i64 (av s 12),.int .i64 (av s 16)]
theorem adk (s:ByteArray) (v0:Value) (w:World) (c0:w.cell? ⟨0,0,none⟩=some v0) (hs:((s.size:Int) != 30)=true) :
  Calls Tryz.prog 86 #[.string s] w fun e w'=>e=.returned (.tuple #[ft,v0])∧Below w.heap.size w w':=by
 have hz:0<w.heap.size:=bCq _ _ c0;go_enter Tryz.func86,Tryz.ntmps86;go_wp2
 go_region
 all_goals go_wp2
 all_goals
  refine bodyPost_ret (v:=.tuple #[ft,v0]) (by simp[results,Tryz.results86,go_sem,ft]) rfl ⟨rfl,?_⟩
  repeat first | exact(bRq _ _).alloc (lRq _) _ | refine Below.drew ?_ | refine Below.setCell (p:=⟨w.heap.size,_,none⟩) ?_ (lRq w.heap.size) _
theorem adj (s:ByteArray) (v4:Value) (w:World) (c4:w.cell? ⟨5,0,none⟩=some v4) (hs:((s.size:Int) != 30)=false) (hne:((dm s 26:Int) != (ah.sum (s.data.toList.take 26):Int))=true) :
  Calls Tryz.prog 86 #[.string s] w fun e w'=>e=.returned (.tuple #[ft,v4])∧Below w.heap.size w w':=by
 have hz:5<w.heap.size:=bCq _ _ c4;have hs':s.size=30:=by have:=hs;simp at this;omega
 have sy:26<=s.size:=by omega
 have f26:(26:Int)<=s.size:=by omega
 have hl:dm (s.extract 26 s.size) 0=dm s 26:=xM s 26 s.size (by omega) (lRq _);have d8:=hDq hs';clear hs';go_enter Tryz.func86,Tryz.ntmps86;go_wp2
 go_quiet (first | (go_at_call 148;refine Calls.quiet_of (xN _ _ ?_);(simp;have:=d8.out;omega)) | (go_at_call 149;refine Calls.quiet_of_same (sW _ _ ?_);(simp[maxLen];have:=d8.out;omega)))
 go_wp2
 go_region
 all_goals go_wp2
 all_goals
  refine bodyPost_ret (v:=.tuple #[ft,v4]) (by simp[results,Tryz.results86,go_sem,ft]) rfl ⟨rfl,?_⟩
  iterate 8 refine Below.setCell (p:=⟨w.heap.size,_,none⟩) ?_ (lRq w.heap.size) _
  exact((bRq _ _).alloc (lRq _) _).trans ((below_drewN (nq+1)).mono (by simp))
theorem adi (s:ByteArray) (v2:Value) (w:World) (c2:w.cell? ⟨3,0,none⟩=some v2) (hs:((s.size:Int) != 30)=false) (hne:((dm s 26:Int) != (ah.sum (s.data.toList.take 26):Int))=false) (hsp:((s.extract 20 26).toList==[0,0,0,0,0,0])=false) :
  Calls Tryz.prog 86 #[.string s] w fun e w'=>e=.returned (.tuple #[ft,v2])∧Below w.heap.size w w':=by
 have hz:3<w.heap.size:=bCq _ _ c2;have hs':s.size=30:=by have:=hs;simp at this;omega
 have uQ:20<=s.size:=by omega
 have f20:(20:Int)<=s.size:=by omega
 have sy:26<=s.size:=by omega
 have f26:(26:Int)<=s.size:=by omega
 have hl:dm (s.extract 26 s.size) 0=dm s 26:=xM s 26 s.size (by omega) (lRq _);have d8:=hDq hs';clear hs';go_enter Tryz.func86,Tryz.ntmps86;go_wp2
 go_quiet (first | (go_at_call 148;refine Calls.quiet_of (xN _ _ ?_);(simp;have:=d8.out;omega)) | (go_at_call 149;refine Calls.quiet_of_same (sW _ _ ?_);(simp[maxLen];have:=d8.out;omega)))
 go_wp2
 go_region
 all_goals go_wp2
 all_goals
  refine bodyPost_ret (v:=.tuple #[ft,v2]) (by simp[results,Tryz.results86,go_sem,ft]) rfl ⟨rfl,?_⟩
  iterate 8 refine Below.setCell (p:=⟨w.heap.size,_,none⟩) ?_ (lRq w.heap.size) _
  exact((bRq _ _).alloc (lRq _) _).trans ((below_drewN (nq+1)).mono (by simp))
theorem adg (s:ByteArray) (w:World) (hs:((s.size:Int) != 30)=false) (hne:((dm s 26:Int) != (ah.sum (s.data.toList.take 26):Int))=false) (hsp:((s.extract 20 26).toList==[0,0,0,0,0,0])=true)
  (Av:Hid (∀ ar,Below w.heap.size w ar->Calls Tryz.prog 151 #[nk s] ar fun e w'=>e=.returned .nilIface∧Below ar.heap.size ar w')) :
  Calls Tryz.prog 86 #[.string s] w fun e w'=>e=.returned (.tuple #[nk s,.nilIface])∧Below w.heap.size w w':=by
 have hs':s.size=30:=by have:=hs;simp at this;omega
 have uQ:20<=s.size:=by omega
 have f20:(20:Int)<=s.size:=by omega
 have sy:26<=s.size:=by omega
 have f26:(26:Int)<=s.size:=by omega
 have hl:dm (s.extract 26 s.size) 0=dm s 26:=xM s 26 s.size (by omega) (lRq _);have d8:=hDq hs';clear hs';go_enter Tryz.func86,Tryz.ntmps86;go_wp2
 go_quiet (first | (go_at_call 148;refine Calls.quiet_of (xN _ _ ?_);(simp;have:=d8.out;omega)) | (go_at_call 149;refine Calls.quiet_of_same (sW _ _ ?_);(simp[maxLen];have:=d8.out;omega)))
 go_wp2_with fail
 have hB:Below w.heap.size w ((w.alloc (.cells #[.int .u8 0,.int .i64 0,.int .i64 0,.int .i64 0,.int .i64 0,.int .i64 0,.int .i64 0,.int .i64 0] 95)).drewN nq):=((bRq _ _).alloc (lRq _) _).trans ((below_drewN nq).mono (by simp));have HB:=hDq hB;clear hB;refine(RS s _ d8.out).mono ?_;rintro e w1 ⟨rfl,hb1⟩
 go_wp2_with fail
 have hz1:w.heap.size<w1.heap.size:=by have:=hb1.size;simp at this;omega
 have HB1:Hid (Below w.heap.size w w1):=HB.out.trans (hb1.mono HB.out.size);have b9:Hid (Below w.heap.size w (w1.alloc (.cells #[.int .u8 (az s 0),.int .i64 (az s 1),.int .i64 (av s 2),.int .i64 (az s 6),.int .i64 (az s 7),.int .i64 (av s 8),.int .i64 (av s 12),.int .i64 (av s 16)] 95))):=HB1.out.alloc HB1.out.size _;have r0:w1.cell? ⟨w.heap.size,0,none⟩=some (.int .u8 0):=by rw[hb1.cell (p:=⟨w.heap.size,0,none⟩) (by simp)];simp
 have z0:w1.frozen? ⟨w.heap.size,0,none⟩=false:=by rw[hb1.frozen (p:=⟨w.heap.size,0,none⟩) (by simp)];simp
 have r1:w1.cell? ⟨w.heap.size,1,none⟩=some (.int .i64 0):=by rw[hb1.cell (p:=⟨w.heap.size,1,none⟩) (by simp)];simp
 have cK:w1.frozen? ⟨w.heap.size,1,none⟩=false:=by rw[hb1.frozen (p:=⟨w.heap.size,1,none⟩) (by simp)];simp
 have r2:w1.cell? ⟨w.heap.size,2,none⟩=some (.int .i64 0):=by rw[hb1.cell (p:=⟨w.heap.size,2,none⟩) (by simp)];simp
 have z2:w1.frozen? ⟨w.heap.size,2,none⟩=false:=by rw[hb1.frozen (p:=⟨w.heap.size,2,none⟩) (by simp)];simp
 have r3:w1.cell? ⟨w.heap.size,3,none⟩=some (.int .i64 0):=by rw[hb1.cell (p:=⟨w.heap.size,3,none⟩) (by simp)];simp
 have z3:w1.frozen? ⟨w.heap.size,3,none⟩=false:=by rw[hb1.frozen (p:=⟨w.heap.size,3,none⟩) (by simp)];simp
 have r4:w1.cell? ⟨w.heap.size,4,none⟩=some (.int .i64 0):=by rw[hb1.cell (p:=⟨w.heap.size,4,none⟩) (by simp)];simp
 have z4:w1.frozen? ⟨w.heap.size,4,none⟩=false:=by rw[hb1.frozen (p:=⟨w.heap.size,4,none⟩) (by simp)];simp
 have Aw:w1.cell? ⟨w.heap.size,5,none⟩=some (.int .i64 0):=by rw[hb1.cell (p:=⟨w.heap.size,5,none⟩) (by simp)];simp
 have z5:w1.frozen? ⟨w.heap.size,5,none⟩=false:=by rw[hb1.frozen (p:=⟨w.heap.size,5,none⟩) (by simp)];simp
 have r6:w1.cell? ⟨w.heap.size,6,none⟩=some (.int .i64 0):=by rw[hb1.cell (p:=⟨w.heap.size,6,none⟩) (by simp)];simp
 have xO:w1.frozen? ⟨w.heap.size,6,none⟩=false:=by rw[hb1.frozen (p:=⟨w.heap.size,6,none⟩) (by simp)];simp
 have oF:w1.cell? ⟨w.heap.size,7,none⟩=some (.int .i64 0):=by rw[hb1.cell (p:=⟨w.heap.size,7,none⟩) (by simp)];simp
 have xP:w1.frozen? ⟨w.heap.size,7,none⟩=false:=by rw[hb1.frozen (p:=⟨w.heap.size,7,none⟩) (by simp)];simp
 clear hb1 HB;refine(Av.out _ b9.out).mono ?_;rintro e w2 ⟨rfl,hb2⟩;have HB2:Hid (Below w.heap.size w w2):=b9.out.trans (hb2.mono b9.out.size);have hz2:w1.heap.size<w2.heap.size:=by have:=hb2.size;simp at this;omega
 have R0:w2.cell? ⟨w.heap.size,0,none⟩=some (.int .u8 0):=by rw[hb2.cell (p:=⟨w.heap.size,0,none⟩) (by simp;omega),World.cell?_alloc_lt _ _ ⟨w.heap.size,0,none⟩ hz1];exact r0
 have Jg:w2.frozen? ⟨w.heap.size,0,none⟩=false:=by rw[hb2.frozen (p:=⟨w.heap.size,0,none⟩) (by simp;omega),World.frozen?_alloc_old _ _ ⟨w.heap.size,0,none⟩ (Nat.ne_of_lt hz1)];exact z0
 have A0:w2.cell? ⟨w1.heap.size,0,none⟩=some (.int .u8 (az s 0)):=by rw[hb2.cell (p:=⟨w1.heap.size,0,none⟩) (by simp)];simp
 have cp:w2.cell? ⟨w.heap.size,1,none⟩=some (.int .i64 0):=by rw[hb2.cell (p:=⟨w.heap.size,1,none⟩) (by simp;omega),World.cell?_alloc_lt _ _ ⟨w.heap.size,1,none⟩ hz1];exact r1
 have Jh:w2.frozen? ⟨w.heap.size,1,none⟩=false:=by rw[hb2.frozen (p:=⟨w.heap.size,1,none⟩) (by simp;omega),World.frozen?_alloc_old _ _ ⟨w.heap.size,1,none⟩ (Nat.ne_of_lt hz1)];exact cK
 have Ji:w2.cell? ⟨w1.heap.size,1,none⟩=some (.int .i64 (az s 1)):=by rw[hb2.cell (p:=⟨w1.heap.size,1,none⟩) (by simp)];simp
 have R2:w2.cell? ⟨w.heap.size,2,none⟩=some (.int .i64 0):=by rw[hb2.cell (p:=⟨w.heap.size,2,none⟩) (by simp;omega),World.cell?_alloc_lt _ _ ⟨w.heap.size,2,none⟩ hz1];exact r2
 have Jj:w2.frozen? ⟨w.heap.size,2,none⟩=false:=by rw[hb2.frozen (p:=⟨w.heap.size,2,none⟩) (by simp;omega),World.frozen?_alloc_old _ _ ⟨w.heap.size,2,none⟩ (Nat.ne_of_lt hz1)];exact z2
 have A2:w2.cell? ⟨w1.heap.size,2,none⟩=some (.int .i64 (av s 2)):=by rw[hb2.cell (p:=⟨w1.heap.size,2,none⟩) (by simp)];simp
 have lI:w2.cell? ⟨w.heap.size,3,none⟩=some (.int .i64 0):=by rw[hb2.cell (p:=⟨w.heap.size,3,none⟩) (by simp;omega),World.cell?_alloc_lt _ _ ⟨w.heap.size,3,none⟩ hz1];exact r3
 have Jk:w2.frozen? ⟨w.heap.size,3,none⟩=false:=by rw[hb2.frozen (p:=⟨w.heap.size,3,none⟩) (by simp;omega),World.frozen?_alloc_old _ _ ⟨w.heap.size,3,none⟩ (Nat.ne_of_lt hz1)];exact z3
 have A3:w2.cell? ⟨w1.heap.size,3,none⟩=some (.int .i64 (az s 6)):=by rw[hb2.cell (p:=⟨w1.heap.size,3,none⟩) (by simp)];simp
 have uR:w2.cell? ⟨w.heap.size,4,none⟩=some (.int .i64 0):=by rw[hb2.cell (p:=⟨w.heap.size,4,none⟩) (by simp;omega),World.cell?_alloc_lt _ _ ⟨w.heap.size,4,none⟩ hz1];exact r4
 have Jl:w2.frozen? ⟨w.heap.size,4,none⟩=false:=by rw[hb2.frozen (p:=⟨w.heap.size,4,none⟩) (by simp;omega),World.frozen?_alloc_old _ _ ⟨w.heap.size,4,none⟩ (Nat.ne_of_lt hz1)];exact z4
 have Jm:w2.cell? ⟨w1.heap.size,4,none⟩=some (.int .i64 (az s 7)):=by rw[hb2.cell (p:=⟨w1.heap.size,4,none⟩) (by simp)];simp
 have uS:w2.cell? ⟨w.heap.size,5,none⟩=some (.int .i64 0):=by rw[hb2.cell (p:=⟨w.heap.size,5,none⟩) (by simp;omega),World.cell?_alloc_lt _ _ ⟨w.heap.size,5,none⟩ hz1];exact Aw
 have Jn:w2.frozen? ⟨w.heap.size,5,none⟩=false:=by rw[hb2.frozen (p:=⟨w.heap.size,5,none⟩) (by simp;omega),World.frozen?_alloc_old _ _ ⟨w.heap.size,5,none⟩ (Nat.ne_of_lt hz1)];exact z5
 have Jo:w2.cell? ⟨w1.heap.size,5,none⟩=some (.int .i64 (av s 8)):=by rw[hb2.cell (p:=⟨w1.heap.size,5,none⟩) (by simp)];simp
 have uT:w2.cell? ⟨w.heap.size,6,none⟩=some (.int .i64 0):=by rw[hb2.cell (p:=⟨w.heap.size,6,none⟩) (by simp;omega),World.cell?_alloc_lt _ _ ⟨w.heap.size,6,none⟩ hz1];exact r6
 have Jp:w2.frozen? ⟨w.heap.size,6,none⟩=false:=by rw[hb2.frozen (p:=⟨w.heap.size,6,none⟩) (by simp;omega),World.frozen?_alloc_old _ _ ⟨w.heap.size,6,none⟩ (Nat.ne_of_lt hz1)];exact xO
 have Jq:w2.cell? ⟨w1.heap.size,6,none⟩=some (.int .i64 (av s 12)):=by rw[hb2.cell (p:=⟨w1.heap.size,6,none⟩) (by simp)];simp
 have uU:w2.cell? ⟨w.heap.size,7,none⟩=some (.int .i64 0):=by rw[hb2.cell (p:=⟨w.heap.size,7,none⟩) (by simp;omega),World.cell?_alloc_lt _ _ ⟨w.heap.size,7,none⟩ hz1];exact oF
 have Jr:w2.frozen? ⟨w.heap.size,7,none⟩=false:=by rw[hb2.frozen (p:=⟨w.heap.size,7,none⟩) (by simp;omega),World.frozen?_alloc_old _ _ ⟨w.heap.size,7,none⟩ (Nat.ne_of_lt hz1)];exact xP
 have Js:w2.cell? ⟨w1.heap.size,7,none⟩=some (.int .i64 (av s 16)):=by rw[hb2.cell (p:=⟨w1.heap.size,7,none⟩) (by simp)];simp
 clear hb2 r0 r1 r2 r3 r4 Aw r6 oF z0 cK z2 z3 z4 z5 xO xP;go_wp2;refine bodyPost_ret (v:=.tuple #[nk s,.nilIface]) (by simp[results,Tryz.results86,go_sem,nk,R0,cp,R2,lI,uR,uS,uT,uU]) rfl ⟨rfl,?_⟩
 iterate 8 refine Below.setCell (p:=⟨w.heap.size,_,none⟩) ?_ (lRq w.heap.size) _
 exact HB2.out
theorem adh (s:ByteArray) (T:TypeId) (x:Value) (w:World) (hs:((s.size:Int) != 30)=false) (hne:((dm s 26:Int) != (ah.sum (s.data.toList.take 26):Int))=false) (hsp:((s.extract 20 26).toList==[0,0,0,0,0,0])=true)
  (Av:Hid (∀ ar,Below w.heap.size w ar->Calls Tryz.prog 151 #[nk s] ar fun e w'=>e=.returned (.iface T x)∧Below ar.heap.size ar w')) :
  Calls Tryz.prog 86 #[.string s] w fun e w'=>e=.returned (.tuple #[ft,.iface T x])∧Below w.heap.size w w':=by
 have hs':s.size=30:=by have:=hs;simp at this;omega
 have uQ:20<=s.size:=by omega
 have f20:(20:Int)<=s.size:=by omega
 have sy:26<=s.size:=by omega
 have f26:(26:Int)<=s.size:=by omega
 have hl:dm (s.extract 26 s.size) 0=dm s 26:=xM s 26 s.size (by omega) (lRq _);have d8:=hDq hs';clear hs';go_enter Tryz.func86,Tryz.ntmps86;go_wp2
 go_quiet (first | (go_at_call 148;refine Calls.quiet_of (xN _ _ ?_);(simp;have:=d8.out;omega)) | (go_at_call 149;refine Calls.quiet_of_same (sW _ _ ?_);(simp[maxLen];have:=d8.out;omega)))
 go_wp2_with fail
 have hB:Below w.heap.size w ((w.alloc (.cells #[.int .u8 0,.int .i64 0,.int .i64 0,.int .i64 0,.int .i64 0,.int .i64 0,.int .i64 0,.int .i64 0] 95)).drewN nq):=((bRq _ _).alloc (lRq _) _).trans ((below_drewN nq).mono (by simp));have HB:=hDq hB;clear hB;refine(RS s _ d8.out).mono ?_;rintro e w1 ⟨rfl,hb1⟩
 go_wp2_with fail
 have hz1:w.heap.size<w1.heap.size:=by have:=hb1.size;simp at this;omega
 have HB1:Hid (Below w.heap.size w w1):=HB.out.trans (hb1.mono HB.out.size);have b9:Hid (Below w.heap.size w (w1.alloc (.cells #[.int .u8 (az s 0),.int .i64 (az s 1),.int .i64 (av s 2),.int .i64 (az s 6),.int .i64 (az s 7),.int .i64 (av s 8),.int .i64 (av s 12),.int .i64 (av s 16)] 95))):=HB1.out.alloc HB1.out.size _;have r0:w1.cell? ⟨w.heap.size,0,none⟩=some (.int .u8 0):=by rw[hb1.cell (p:=⟨w.heap.size,0,none⟩) (by simp)];simp
 have z0:w1.frozen? ⟨w.heap.size,0,none⟩=false:=by rw[hb1.frozen (p:=⟨w.heap.size,0,none⟩) (by simp)];simp
 have r1:w1.cell? ⟨w.heap.size,1,none⟩=some (.int .i64 0):=by rw[hb1.cell (p:=⟨w.heap.size,1,none⟩) (by simp)];simp
 have cK:w1.frozen? ⟨w.heap.size,1,none⟩=false:=by rw[hb1.frozen (p:=⟨w.heap.size,1,none⟩) (by simp)];simp
 have r2:w1.cell? ⟨w.heap.size,2,none⟩=some (.int .i64 0):=by rw[hb1.cell (p:=⟨w.heap.size,2,none⟩) (by simp)];simp
 have z2:w1.frozen? ⟨w.heap.size,2,none⟩=false:=by rw[hb1.frozen (p:=⟨w.heap.size,2,none⟩) (by simp)];simp
 have r3:w1.cell? ⟨w.heap.size,3,none⟩=some (.int .i64 0):=by rw[hb1.cell (p:=⟨w.heap.size,3,none⟩) (by simp)];simp
 have z3:w1.frozen? ⟨w.heap.size,3,none⟩=false:=by rw[hb1.frozen (p:=⟨w.heap.size,3,none⟩) (by simp)];simp
 have r4:w1.cell? ⟨w.heap.size,4,none⟩=some (.int .i64 0):=by rw[hb1.cell (p:=⟨w.heap.size,4,none⟩) (by simp)];simp
 have z4:w1.frozen? ⟨w.heap.size,4,none⟩=false:=by rw[hb1.frozen (p:=⟨w.heap.size,4,none⟩) (by simp)];simp
 have Aw:w1.cell? ⟨w.heap.size,5,none⟩=some (.int .i64 0):=by rw[hb1.cell (p:=⟨w.heap.size,5,none⟩) (by simp)];simp
 have z5:w1.frozen? ⟨w.heap.size,5,none⟩=false:=by rw[hb1.frozen (p:=⟨w.heap.size,5,none⟩) (by simp)];simp
 have r6:w1.cell? ⟨w.heap.size,6,none⟩=some (.int .i64 0):=by rw[hb1.cell (p:=⟨w.heap.size,6,none⟩) (by simp)];simp
 have xO:w1.frozen? ⟨w.heap.size,6,none⟩=false:=by rw[hb1.frozen (p:=⟨w.heap.size,6,none⟩) (by simp)];simp
 have oF:w1.cell? ⟨w.heap.size,7,none⟩=some (.int .i64 0):=by rw[hb1.cell (p:=⟨w.heap.size,7,none⟩) (by simp)];simp
 have xP:w1.frozen? ⟨w.heap.size,7,none⟩=false:=by rw[hb1.frozen (p:=⟨w.heap.size,7,none⟩) (by simp)];simp
 clear hb1 HB;refine(Av.out _ b9.out).mono ?_;rintro e w2 ⟨rfl,hb2⟩;have HB2:Hid (Below w.heap.size w w2):=b9.out.trans (hb2.mono b9.out.size);have hz2:w1.heap.size<w2.heap.size:=by have:=hb2.size;simp at this;omega
 have R0:w2.cell? ⟨w.heap.size,0,none⟩=some (.int .u8 0):=by rw[hb2.cell (p:=⟨w.heap.size,0,none⟩) (by simp;omega),World.cell?_alloc_lt _ _ ⟨w.heap.size,0,none⟩ hz1];exact r0
 have Jg:w2.frozen? ⟨w.heap.size,0,none⟩=false:=by rw[hb2.frozen (p:=⟨w.heap.size,0,none⟩) (by simp;omega),World.frozen?_alloc_old _ _ ⟨w.heap.size,0,none⟩ (Nat.ne_of_lt hz1)];exact z0
 have A0:w2.cell? ⟨w1.heap.size,0,none⟩=some (.int .u8 (az s 0)):=by rw[hb2.cell (p:=⟨w1.heap.size,0,none⟩) (by simp)];simp
 have cp:w2.cell? ⟨w.heap.size,1,none⟩=some (.int .i64 0):=by rw[hb2.cell (p:=⟨w.heap.size,1,none⟩) (by simp;omega),World.cell?_alloc_lt _ _ ⟨w.heap.size,1,none⟩ hz1];exact r1
 have Jh:w2.frozen? ⟨w.heap.size,1,none⟩=false:=by rw[hb2.frozen (p:=⟨w.heap.size,1,none⟩) (by simp;omega),World.frozen?_alloc_old _ _ ⟨w.heap.size,1,none⟩ (Nat.ne_of_lt hz1)];exact cK
 have Ji:w2.cell? ⟨w1.heap.size,1,none⟩=some (.int .i64 (az s 1)):=by rw[hb2.cell (p:=⟨w1.heap.size,1,none⟩) (by simp)];simp
 have R2:w2.cell? ⟨w.heap.size,2,none⟩=some (.int .i64 0):=by rw[hb2.cell (p:=⟨w.heap.size,2,none⟩) (by simp;omega),World.cell?_alloc_lt _ _ ⟨w.heap.size,2,none⟩ hz1];exact r2
 have Jj:w2.frozen? ⟨w.heap.size,2,none⟩=false:=by rw[hb2.frozen (p:=⟨w.heap.size,2,none⟩) (by simp;omega),World.frozen?_alloc_old _ _ ⟨w.heap.size,2,none⟩ (Nat.ne_of_lt hz1)];exact z2
 have A2:w2.cell? ⟨w1.heap.size,2,none⟩=some (.int .i64 (av s 2)):=by rw[hb2.cell (p:=⟨w1.heap.size,2,none⟩) (by simp)];simp
 have lI:w2.cell? ⟨w.heap.size,3,none⟩=some (.int .i64 0):=by rw[hb2.cell (p:=⟨w.heap.size,3,none⟩) (by simp;omega),World.cell?_alloc_lt _ _ ⟨w.heap.size,3,none⟩ hz1];exact r3
 have Jk:w2.frozen? ⟨w.heap.size,3,none⟩=false:=by rw[hb2.frozen (p:=⟨w.heap.size,3,none⟩) (by simp;omega),World.frozen?_alloc_old _ _ ⟨w.heap.size,3,none⟩ (Nat.ne_of_lt hz1)];exact z3
 have A3:w2.cell? ⟨w1.heap.size,3,none⟩=some (.int .i64 (az s 6)):=by rw[hb2.cell (p:=⟨w1.heap.size,3,none⟩) (by simp)];simp
 have uR:w2.cell? ⟨w.heap.size,4,none⟩=some (.int .i64 0):=by rw[hb2.cell (p:=⟨w.heap.size,4,none⟩) (by simp;omega),World.cell?_alloc_lt _ _ ⟨w.heap.size,4,none⟩ hz1];exact r4
 have Jl:w2.frozen? ⟨w.heap.size,4,none⟩=false:=by rw[hb2.frozen (p:=⟨w.heap.size,4,none⟩) (by simp;omega),World.frozen?_alloc_old _ _ ⟨w.heap.size,4,none⟩ (Nat.ne_of_lt hz1)];exact z4
 have Jm:w2.cell? ⟨w1.heap.size,4,none⟩=some (.int .i64 (az s 7)):=by rw[hb2.cell (p:=⟨w1.heap.size,4,none⟩) (by simp)];simp
 have uS:w2.cell? ⟨w.heap.size,5,none⟩=some (.int .i64 0):=by rw[hb2.cell (p:=⟨w.heap.size,5,none⟩) (by simp;omega),World.cell?_alloc_lt _ _ ⟨w.heap.size,5,none⟩ hz1];exact Aw
 have Jn:w2.frozen? ⟨w.heap.size,5,none⟩=false:=by rw[hb2.frozen (p:=⟨w.heap.size,5,none⟩) (by simp;omega),World.frozen?_alloc_old _ _ ⟨w.heap.size,5,none⟩ (Nat.ne_of_lt hz1)];exact z5
 have Jo:w2.cell? ⟨w1.heap.size,5,none⟩=some (.int .i64 (av s 8)):=by rw[hb2.cell (p:=⟨w1.heap.size,5,none⟩) (by simp)];simp
 have uT:w2.cell? ⟨w.heap.size,6,none⟩=some (.int .i64 0):=by rw[hb2.cell (p:=⟨w.heap.size,6,none⟩) (by simp;omega),World.cell?_alloc_lt _ _ ⟨w.heap.size,6,none⟩ hz1];exact r6
 have Jp:w2.frozen? ⟨w.heap.size,6,none⟩=false:=by rw[hb2.frozen (p:=⟨w.heap.size,6,none⟩) (by simp;omega),World.frozen?_alloc_old _ _ ⟨w.heap.size,6,none⟩ (Nat.ne_of_lt hz1)];exact xO
 have Jq:w2.cell? ⟨w1.heap.size,6,none⟩=some (.int .i64 (av s 12)):=by rw[hb2.cell (p:=⟨w1.heap.size,6,none⟩) (by simp)];simp
 have uU:w2.cell? ⟨w.heap.size,7,none⟩=some (.int .i64 0):=by rw[hb2.cell (p:=⟨w.heap.size,7,none⟩) (by simp;omega),World.cell?_alloc_lt _ _ ⟨w.heap.size,7,none⟩ hz1];exact oF
 have Jr:w2.frozen? ⟨w.heap.size,7,none⟩=false:=by rw[hb2.frozen (p:=⟨w.heap.size,7,none⟩) (by simp;omega),World.frozen?_alloc_old _ _ ⟨w.heap.size,7,none⟩ (Nat.ne_of_lt hz1)];exact xP
 have Js:w2.cell? ⟨w1.heap.size,7,none⟩=some (.int .i64 (av s 16)):=by rw[hb2.cell (p:=⟨w1.heap.size,7,none⟩) (by simp)];simp
 clear hb2 r0 r1 r2 r3 r4 Aw r6 oF z0 cK z2 z3 z4 z5 xO xP;go_wp2;refine bodyPost_ret (v:=.tuple #[ft,.iface T x]) (by simp[results,Tryz.results86,go_sem,ft,R0,cp,R2,lI,uR,uS,uT,uU]) rfl ⟨rfl,?_⟩
 iterate 8 refine Below.setCell (p:=⟨w.heap.size,_,none⟩) ?_ (lRq w.heap.size) _
 exact HB2.out
def Later (w0:World):Type:={ w:World // Below w0.heap.size w0 w }
def Later.val {w0:World} (x:Later w0):World:=x.1
theorem Later.low {w0:World} (x:Later w0):Below w0.heap.size w0 x.val:=x.2
def lp (n:Nat):List Int:=List.replicate n 0
theorem ae2 (n:Nat):lp (n+1)=lp n++[0]:=List.replicate_succ'
theorem MA (n:Nat):(lp n).length=n:=List.length_replicate
def ae3:Value->Nat
 | .string s=>s.size
 | _=>0
theorem ae4 {w0:World} (n:Int) (x:Later w0):Calls Tryz.prog 47 #[.int .i64 n] x.val fun e w''=>e=.returned (.string (strOfNums [n%256]))∧∃ y:Later w0,w''=y.val :=
 (my n x.val).mono fun _ w' ⟨he,hb⟩=>⟨he,⟨w',x.low.trans (hb.mono x.low.size)⟩,rfl⟩
theorem ae5 {w0:World} (n:Nat) (hn:n<4294967296) (x:Later w0):Calls Tryz.prog 94 #[.int .i64 n] x.val fun e w''=>e=.returned (.string (strOfNums (ah.high n)))∧∃ y:Later w0,w''=y.val :=
 (abV n x.val hn).mono fun _ w' ⟨he,hb⟩=>⟨he,⟨w',x.low.trans (hb.mono x.low.size)⟩,rfl⟩
theorem ae6 (k c sq it sd pr q id:Nat) (w:World) (hk:k<256) (Ur:sq<4294967296) (tE:pr<4294967296) (hq:q<4294967296) (hid:id<4294967296) :
  Calls Tryz.prog 51 #[.agg #[.int .u8 k,.int .i64 c,.int .i64 sq,.int .i64 it,.int .i64 sd,.int .i64 pr,.int .i64 q,.int .i64 id]] w fun e w'=>e=.returned (.string (strOfNums (ah.frame k c sq it sd pr q id)))∧Below w.heap.size w w':=by
 go_enter Tryz.func51,Tryz.ntmps51;go_wp2;have hb0:Below w.heap.size w (w.alloc (.cells #[.int .u8 k,.int .i64 c,.int .i64 sq,.int .i64 it,.int .i64 sd,.int .i64 pr,.int .i64 q,.int .i64 id] 95)):=(bRq _ _).alloc (lRq _) _;have hz0:w.heap.size<(w.alloc (.cells #[.int .u8 k,.int .i64 c,.int .i64 sq,.int .i64 it,.int .i64 sd,.int .i64 pr,.int .i64 q,.int .i64 id] 95)).heap.size:=by simp
 have p0:(w.alloc (.cells #[.int .u8 k,.int .i64 c,.int .i64 sq,.int .i64 it,.int .i64 sd,.int .i64 pr,.int .i64 q,.int .i64 id] 95)).cell? ⟨w.heap.size,0,none⟩=some (.int .u8 k):=by simp
 have p1:(w.alloc (.cells #[.int .u8 k,.int .i64 c,.int .i64 sq,.int .i64 it,.int .i64 sd,.int .i64 pr,.int .i64 q,.int .i64 id] 95)).cell? ⟨w.heap.size,1,none⟩=some (.int .i64 c):=by simp
 have p2:(w.alloc (.cells #[.int .u8 k,.int .i64 c,.int .i64 sq,.int .i64 it,.int .i64 sd,.int .i64 pr,.int .i64 q,.int .i64 id] 95)).cell? ⟨w.heap.size,2,none⟩=some (.int .i64 sq):=by simp
 have p3:(w.alloc (.cells #[.int .u8 k,.int .i64 c,.int .i64 sq,.int .i64 it,.int .i64 sd,.int .i64 pr,.int .i64 q,.int .i64 id] 95)).cell? ⟨w.heap.size,3,none⟩=some (.int .i64 it):=by simp
 have p4:(w.alloc (.cells #[.int .u8 k,.int .i64 c,.int .i64 sq,.int .i64 it,.int .i64 sd,.int .i64 pr,.int .i64 q,.int .i64 id] 95)).cell? ⟨w.heap.size,4,none⟩=some (.int .i64 sd):=by simp
 have jP:(w.alloc (.cells #[.int .u8 k,.int .i64 c,.int .i64 sq,.int .i64 it,.int .i64 sd,.int .i64 pr,.int .i64 q,.int .i64 id] 95)).cell? ⟨w.heap.size,5,none⟩=some (.int .i64 pr):=by simp
 have jQ:(w.alloc (.cells #[.int .u8 k,.int .i64 c,.int .i64 sq,.int .i64 it,.int .i64 sd,.int .i64 pr,.int .i64 q,.int .i64 id] 95)).cell? ⟨w.heap.size,6,none⟩=some (.int .i64 q):=by simp
 have jR:(w.alloc (.cells #[.int .u8 k,.int .i64 c,.int .i64 sq,.int .i64 it,.int .i64 sd,.int .i64 pr,.int .i64 q,.int .i64 id] 95)).cell? ⟨w.heap.size,7,none⟩=some (.int .i64 id):=by simp
 generalize w.alloc (.cells #[.int .u8 k,.int .i64 c,.int .i64 sq,.int .i64 it,.int .i64 sd,.int .i64 pr,.int .i64 q,.int .i64 id] 95)=w0 at *;have q0:∀ x:Later w0,x.val.cell? ⟨w.heap.size,0,none⟩=some (.int .u8 k):=fun x=>by rw[x.low.cell (p:=⟨w.heap.size,0,none⟩) hz0];exact p0
 have q1:∀ x:Later w0,x.val.cell? ⟨w.heap.size,1,none⟩=some (.int .i64 c):=fun x=>by rw[x.low.cell (p:=⟨w.heap.size,1,none⟩) hz0];exact p1
 have q2:∀ x:Later w0,x.val.cell? ⟨w.heap.size,2,none⟩=some (.int .i64 sq):=fun x=>by rw[x.low.cell (p:=⟨w.heap.size,2,none⟩) hz0];exact p2
 have q3:∀ x:Later w0,x.val.cell? ⟨w.heap.size,3,none⟩=some (.int .i64 it):=fun x=>by rw[x.low.cell (p:=⟨w.heap.size,3,none⟩) hz0];exact p3
 have q4:∀ x:Later w0,x.val.cell? ⟨w.heap.size,4,none⟩=some (.int .i64 sd):=fun x=>by rw[x.low.cell (p:=⟨w.heap.size,4,none⟩) hz0];exact p4
 have q5:∀ x:Later w0,x.val.cell? ⟨w.heap.size,5,none⟩=some (.int .i64 pr):=fun x=>by rw[x.low.cell (p:=⟨w.heap.size,5,none⟩) hz0];exact jP
 have q6:∀ x:Later w0,x.val.cell? ⟨w.heap.size,6,none⟩=some (.int .i64 q):=fun x=>by rw[x.low.cell (p:=⟨w.heap.size,6,none⟩) hz0];exact jQ
 have an5:∀ x:Later w0,x.val.cell? ⟨w.heap.size,7,none⟩=some (.int .i64 id):=fun x=>by rw[x.low.cell (p:=⟨w.heap.size,7,none⟩) hz0];exact jR
 clear p0 p1 p2 p3 p4 jP jQ jR;have bD:=hDq hb0;clear hb0;have hne:Nonempty (Later w0):=⟨⟨w0,bRq _ _⟩⟩;have cK:∀ n:Int,(strOfNums [n]).size=1:=fun n=>rfl;have z4:∀ n:Int,(strOfNums (ah.high n)).size=4:=fun n=>rfl;refine xy (X:=Later w0) Later.val (by kernel_rfl) (by kernel_rfl) ⟨_,(bRq _ _).drew⟩ rfl ?_
 repeat quiet_step ((first | (go_at_call 47;exact ae4 _ _) | (go_at_call 94;exact ae5 _ (by assumption) _)))
 refine wpQuiet_nil ?_;intro x
 go_wp2_with fail
 have hw:IntKind.i64.wrap (k:Int)%256=(k:Int):=by rw[Us k (by omega)];omega
 have E:strOfNums [IntKind.i64.wrap (k:Int)%256]++strOfNums [(c:Int)%256]++strOfNums (ah.high sq)++strOfNums [(it:Int)%256]++strOfNums [(sd:Int)%256]++strOfNums (ah.high pr)++strOfNums (ah.high q)++strOfNums (ah.high id)
   = strOfNums (((((([(k:Int),(c:Int)%256]++ah.high sq)++[(it:Int)%256,(sd:Int)%256])++ah.high pr)++ah.high q)++ah.high id)):=by
  rw[hw];simp only[nums_append];simp
 rw[E];have HF:Hid (ah.frame k c sq it sd pr q id=((((((([(k:Int),(c:Int)%256]++ah.high sq)++[(it:Int)%256,(sd:Int)%256])++ah.high pr)++ah.high q)++ah.high id))++lp 6) ++
   ah.low (ah.sum (strOfNums ((((((([(k:Int),(c:Int)%256]++ah.high sq)++[(it:Int)%256,(sd:Int)%256])++ah.high pr)++ah.high q)++ah.high id))++lp 6)).data.toList)):=rfl
 have HL:Hid ((((((([(k:Int),(c:Int)%256]++ah.high sq)++[(it:Int)%256,(sd:Int)%256])++ah.high pr)++ah.high q)++ah.high id)).length=20):=by
  show List.length _=20;simp[ah.high]
 clear E hw cK z4;generalize (((((([(k:Int),(c:Int)%256]++ah.high sq)++[(it:Int)%256,(sd:Int)%256])++ah.high pr)++ah.high q)++ah.high id))=H at *;have HX:Hid (Below w.heap.size w x.val):=bD.out.trans (x.low.mono bD.out.size);generalize x.val=w1 at *
 go_loop [3] (fun v=>∃ j:Nat,j<=6∧v=.string (strOfNums (H++lp j))) (fun v=>26-ae3 v)
 case atStart=>exact⟨0,by omega,by rw[show lp 0=[] from rfl,aNq]⟩
 case round =>
  obtain⟨j,hj,rfl⟩:=hrel;have hsz:(strOfNums (H++lp j)).size=20+j:=by rw[strOfNums_size,lAq,HL.out,MA]
  have HS:Hid (strOfNums (H++lp j)++⟨#[0]⟩=strOfNums (H++lp (j+1))):=by
   have:(⟨#[0]⟩:ByteArray)=strOfNums [0]:=rfl;show _++_=_;rw[this,nums_append,aAq,ae2]
  by_cases hlt:j<6
  ·have a_:(20+(j:Int))<26:=by omega
   go_wp2;refine⟨⟨j+1,by omega,by rw[HS.out]⟩,?_⟩;rw[HS.out];show 26-(strOfNums (H++lp (j+1))).size<26-(strOfNums (H++lp j)).size;rw[strOfNums_size,strOfNums_size,lAq,lAq,HL.out,MA,MA];omega
  ·obtain rfl:j=6:=by omega
   have a_:¬ ((strOfNums (H++lp 6)).size:Int)<26:=by omega
   have hm:(strOfNums (H++lp 6)).size<=maxLen:=by rw[hsz];decide
   clear HS
   go_wp2_with fail
   refine(Qy _ _ hm).mono ?_;rintro e w2 ⟨rfl,rfl⟩
   go_wp2_with fail
   refine(Qx _ _ (ah.sum_lt _)).mono ?_;rintro e w3 ⟨rfl,hb3⟩;have DY:(strOfNums (ah.low (ah.sum (strOfNums (H++lp 6)).data.toList))).size=4:=rfl;go_wp2;go_ret;refine⟨xH ?_,HX.out.trans (hb3.mono HX.out.size)⟩;rw[nums_append,HF.out]
theorem ae7 (k c sq it sd pr q id:Int) (w:World) (h:ah.code k c sq it sd pr q id=0) :
  Calls Tryz.prog 51 #[.agg #[.int .u8 k,.int .i64 c,.int .i64 sq,.int .i64 it,.int .i64 sd,.int .i64 pr,.int .i64 q,.int .i64 id]] w fun e w'=>e=.returned (.string (strOfNums (ah.frame k c sq it sd pr q id)))∧Below w.heap.size w w':=by
 have f:=ah.fits h;obtain⟨k,rfl⟩:=Int.eq_ofNat_of_zero_le f.k.1;obtain⟨c,rfl⟩:=Int.eq_ofNat_of_zero_le f.c.1;obtain⟨sq,rfl⟩:=Int.eq_ofNat_of_zero_le f.sq.1;obtain⟨it,rfl⟩:=Int.eq_ofNat_of_zero_le f.it.1;obtain⟨sd,rfl⟩:=Int.eq_ofNat_of_zero_le f.sd.1;obtain⟨pr,rfl⟩:=Int.eq_ofNat_of_zero_le f.pr.1;obtain⟨q,rfl⟩:=Int.eq_ofNat_of_zero_le f.q.1;obtain⟨id,rfl⟩:=Int.eq_ofNat_of_zero_le f.id.1;have h1:=f.k;have h2:=f.sq;have h3:=f.pr;have h4:=f.q;have h5:=f.id;exact ae6 k c sq it sd pr q id w (by omega) (by omega) (by omega) (by omega) (by omega)
theorem MS {w:World} {base:Nat} {v:Value} {l:List Cv.ag} (h:w.ownsRow base 197 5 v l.length (flat l)):(v=.slice none 0 0∧l=[])∨∃ g cap,v=.slice (some ⟨g,0,none⟩) l.length cap∧ew w g 0 l:=by
 rcases h.2 with ⟨e,e2⟩ | ⟨g,cap,cur,e,hg,dF,hle,_,_,_⟩
 ·exact .inl ⟨e,List.eq_nil_of_length_eq_zero e2⟩
 ·refine .inr ⟨g,cap,e,z6 fun j u hu=>?_⟩
  have:=World.ownsRow.cells h (g:=g) (by rw[e];rfl) j u hu
  have hp:(⟨g,0,none⟩:Addr).add j=⟨g,j,none⟩:=by unfold Addr.add;split <;> simp_all
  rwa [hp]at this
end Go.Proofs.YtjolccidheflpaaGreatDoor
