/- The readers of numbers in bytes: four.Low and four.High, at every text of at least four bytes. -/
import Derived.Test.YtjolccidheflpaaGreatDoorX03
import Derived.BigQuiet
import Derived.Test.YtjolccidheflpaaGreatDoorX01
namespace Go.Proofs.YtjolccidheflpaaGreatDoor
open Go.Proofs.Tryz
set_option maxHeartbeats 8000000
set_option maxRecDepth 100000
open Go.RowKit
def aS(s:ByteArray)(i:Nat):Nat:=(s.data.toList.getD i 0).toNat
theorem lR(s:ByteArray)(i:Nat):aS s i<256:=by unfold aS;exact UInt8.toNat_lt _
theorem lu(s:ByteArray)(i:Nat)(h:i<s.size):(s[i]).toNat=aS s i:=by
 have h':i<s.data.toList.length:=by simpa using h
 unfold aS;rw[gE,List.getElem?_eq_getElem h'];rfl
def ft(s:ByteArray)(i:Nat):Nat:=aS s i+256*aS s (i+1)+65536*aS s (i+2)+16777216*aS s (i+3)
def aJ(s:ByteArray)(i:Nat):Nat:=16777216*aS s i+65536*aS s (i+1)+256*aS s (i+2)+aS s (i+3)
theorem Np(x y:Nat)(i:Nat)(hx:x<2 ^ i)(hy:y%2 ^ i=0)(h1:x<4294967296)(h2:y<4294967296):bits .or .u32 (x:Int) (y:Int)=((x+y:Nat):Int):=by rw[u32_or_nat x y h1 h2,Nat.or_comm,nat_join i y x hy hx,Nat.add_comm]
theorem ah9(a b c d:Nat)(ha:a<256)(hb:b<256)(hc:c<256)(hd:d<256):
  bits .or .u32 (bits .or .u32 (bits .or .u32 ((a:Int)%4294967296) ((b:Int)%4294967296*256%4294967296)) ((c:Int)%4294967296*65536%4294967296)) ((d:Int)%4294967296*16777216%4294967296)
   = ((a+256*b+65536*c+16777216*d:Nat):Int):=by
 rw[show ((a:Int)%4294967296)=(a:Int) by omega,show ((b:Int)%4294967296*256%4294967296)=((256*b:Nat):Int) by omega,show ((c:Int)%4294967296*65536%4294967296)=((65536*c:Nat):Int) by omega,show ((d:Int)%4294967296*16777216%4294967296)=((16777216*d:Nat):Int) by omega];rw[Np a (256*b) 8 (by omega) (by omega) (by omega) (by omega),Np (a+256*b) (65536*c) 16 (by omega) (by omega) (by omega) (by omega),Np (a+256*b+65536*c) (16777216*d) 24 (by omega) (by omega) (by omega) (by omega)]
theorem xA(n:Nat)(h:n<9223372036854775808):wrap64 (n:Int)=(n:Int):=by unfold wrap64;omega
theorem Nq(x y:Nat)(i:Nat)(hx:x%2 ^ i=0)(hy:y<2 ^ i)(h1:x<4294967296)(h2:y<4294967296):bits .or .u32 (x:Int) (y:Int)=((x+y:Nat):Int):=by rw[u32_or_nat x y h1 h2,nat_join i x y hx hy]
theorem aia(a b c d:Nat)(ha:a<256)(hb:b<256)(hc:c<256)(hd:d<256):
  bits .or .u32 (bits .or .u32 (bits .or .u32 ((a:Int)%4294967296*16777216%4294967296) ((b:Int)%4294967296*65536%4294967296)) ((c:Int)%4294967296*256%4294967296)) ((d:Int)%4294967296)
   = ((16777216*a+65536*b+256*c+d:Nat):Int):=by
 rw[show ((d:Int)%4294967296)=(d:Int) by omega,show ((c:Int)%4294967296*256%4294967296)=((256*c:Nat):Int) by omega,show ((b:Int)%4294967296*65536%4294967296)=((65536*b:Nat):Int) by omega,show ((a:Int)%4294967296*16777216%4294967296)=((16777216*a:Nat):Int) by omega];rw[Nq (16777216*a) (65536*b) 24 (by omega) (by omega) (by omega) (by omega),Nq (16777216*a+65536*b) (256*c) 16 (by omega) (by omega) (by omega) (by omega),Nq (16777216*a+65536*b+256*c) d 8 (by omega) (by omega) (by omega) (by omega)]
theorem zC(s:ByteArray)(w:World)(hs:4<=s.size):
  Calls prog 148 #[.string s] w fun e w'=>e=.returned (.int .u32 (ft s 0))/\∃m,w'=w.drewN m:=by
 have g0:0<s.size:=by omega
 have g1:1<s.size:=by omega
 have g2:2<s.size:=by omega
 have g3:3<s.size:=by omega
 have h1:(1:Int)<s.size:=by omega
 have h2:(2:Int)<s.size:=by omega
 have h3:(3:Int)<s.size:=by omega
 clear hs;go_enter func148,ntmps148;go_wp2
 go_quiet (fail)
 go_wp2;go_ret;refine⟨xj ?_,nq,rfl⟩;rw[lu s 0 g0,lu s 1 g1,lu s 2 g2,lu s 3 g3];exact ah9 _ _ _ _ (lR _ _) (lR _ _) (lR _ _) (lR _ _)
theorem pA(s:ByteArray)(w:World)(hs:4<=s.size):
  Calls prog 168 #[.string s] w fun e w'=>e=.returned (.int .u32 (aJ s 0))/\∃m,w'=w.drewN m:=by
 have g0:0<s.size:=by omega
 have g1:1<s.size:=by omega
 have g2:2<s.size:=by omega
 have g3:3<s.size:=by omega
 have h1:(1:Int)<s.size:=by omega
 have h2:(2:Int)<s.size:=by omega
 have h3:(3:Int)<s.size:=by omega
 clear hs;go_enter func168,ntmps168;go_wp2
 go_quiet (fail)
 go_wp2;go_ret;refine⟨xj ?_,nq,rfl⟩;rw[lu s 0 g0,lu s 1 g1,lu s 2 g2,lu s 3 g3];exact aia _ _ _ _ (lR _ _) (lR _ _) (lR _ _) (lR _ _)
theorem pz(s:ByteArray)(a b i:Nat)(h:a+i<b)(hb:b<=s.size):aS (s.extract a b) i=aS s (a+i):=by
 have h1:i<(s.extract a b).size:=by simp;omega
 rw[<- lu (s.extract a b) i h1,<- lu s (a+i) (by omega)];congr 1;exact ByteArray.getElem_extract ..
def cm(x:Cv.af):Value:=.agg #[Z x.id,Z x.ai,Z x.sd,Z x.pr,Z x.q]
theorem aeF(x:Cv.af)(w:World):Calls prog 281 #[cm x] w fun e w'=>e=.returned (.bool (Cv.ok x))/\U w w':=by
 show Calls prog 281 #[.agg #[Z x.id,Z x.ai,Z x.sd,Z x.pr,Z x.q]] w _;go_enter func281,ntmps281
 go_wp2_with (first | (go_at_call 97;refine(xu _ _).mono ?_;rintro e w' ⟨rfl,rfl⟩) | (go_at_call 160;refine(ib _ _ _ _).mono ?_;rintro e w' ⟨rfl,rfl⟩))
 all_goals go_ret
 all_goals
  refine⟨jg ?_,aj⟩
  go_light
  simp_all[Cv.ok]
theorem aeR(x:Cv.af)(B:Nat)(p:Int)(w:World)(hc:w.cell? (O B 0)=some (Z p)):
  Calls prog 309 #[cm x,Rw B] w fun e w'=>e=.returned (.bool (Cv.iK p x))/\U w w':=by
 have hB:B<w.heap.size:=bCq _ _ hc;have hne:B≠w.heap.size:=by omega
 show Calls prog 309 #[.agg #[Z x.id,Z x.ai,Z x.sd,Z x.pr,Z x.q],Rw B] w _;go_enter func309,ntmps309;go_wp2
 all_goals go_ret
 all_goals
  refine⟨jg ?_,aj⟩;simp_all[Cv.iK]
theorem aeT(x:Cv.af)(B:Nat)(p:Int)(w:World)(hc:w.cell? (O B 0)=some (Z p)):
  Calls prog 310 #[cm x,Rw B] w fun e w'=>e=.returned (.bool (Cv.sB p x))/\U w w':=by
 have hB:B<w.heap.size:=bCq _ _ hc;have hne:B≠w.heap.size:=by omega
 show Calls prog 310 #[.agg #[Z x.id,Z x.ai,Z x.sd,Z x.pr,Z x.q],Rw B] w _;go_enter func310,ntmps310;go_wp2
 all_goals go_ret
 all_goals
  refine⟨jg ?_,aj⟩;simp_all[Cv.sB]
theorem aeN(x:Cv.af)(B:Nat)(id:Int)(w:World)(hc:w.cell? (O B 0)=some (Z id)):
  Calls prog 300 #[cm x,Rw B] w fun e w'=>e=.returned (.bool (x.id==id))/\U w w':=by
 have hB:B<w.heap.size:=bCq _ _ hc;have hne:B≠w.heap.size:=by omega
 show Calls prog 300 #[.agg #[Z x.id,Z x.ai,Z x.sd,Z x.pr,Z x.q],Rw B] w _;go_enter func300,ntmps300;go_wp2
 all_goals go_ret
 all_goals
  refine⟨jg ?_,aj⟩
  first | rfl | simp_all
theorem SQ(side p than:Int)(w:World):Calls prog 287 #[Z side,Z p,Z than] w fun e w'=>e=.returned (.bool (Cv.better side p than))/\w'=w:=by
 go_enter func287,ntmps287;go_wp2
 all_goals go_ret
 all_goals
  refine⟨jg ?_,rfl⟩;simp_all[Cv.better]
def fU(w:World)(b off:Nat)(l:List Cv.af):Prop :=
 ∀i,i<l.length->w.cell? ⟨b,off+i*5,none⟩=some (Z (Cv.nth l i).id)/\w.cell? ⟨b,off+i*5+1,none⟩=some (Z (Cv.nth l i).ai)/\w.cell? ⟨b,off+i*5+2,none⟩=some (Z (Cv.nth l i).sd) /\
  w.cell? ⟨b,off+i*5+3,none⟩=some (Z (Cv.nth l i).pr)/\w.cell? ⟨b,off+i*5+4,none⟩=some (Z (Cv.nth l i).q)
theorem fU.later{w w':World}{b off:Nat}{l:List Cv.af}(h:fU w b off l)(hb:U w w'):fU w' b off l :=
 fun i hi=>⟨cell_later hb (h i hi).1,cell_later hb (h i hi).2.1,cell_later hb (h i hi).2.2.1,cell_later hb (h i hi).2.2.2.1,cell_later hb (h i hi).2.2.2.2⟩
theorem aeM(b off cap B:Nat)(id:Int)(l:List Cv.af)(w:World)(hn':l.length<=1000)(hl:Hid (fU w b off l))(hc:w.cell? (O B 0)=some (Z id)):
  Calls prog 265 #[.slice (some (O b off)) l.length cap,.func (.func 300) #[] #[Rw B]] w fun e w'=>(∃r:Int,e=.returned (Z r)/\decide (0<=r)=Cv.has l id)/\U w w':=by
 generalize hn:l.length=n at *;have Hn:=Y hn;clear hn;go_enter func265,ntmps265;go_wp2
 go_loopw [8] (fun i wr=>∃k:Nat,k<=n/\i=Z k/\Cv.has (l.take k) id=false/\U w wr) (fun i _=>n-(intOf i).toNat)
 case atStart=>exact⟨0,Nat.zero_le _,rfl,rfl,bRq _ _⟩
 case round =>
  obtain⟨k,hk,rfl,hno,hb⟩:=hrel;have HN:=Y hno;have HB:=Y hb;clear hno hb;by_cases hlt:k<n
  .have aT:(k:Int)<n:=by omega
   obtain⟨c0,c1,c2,c3,c4⟩:=(hl.later HB) k (by rw[Hn.out];exact hlt);have hcB:=cell_later HB hc;have HC:=Y (aeN (Cv.nth l k) B id wr hcB);have HT:=Y (Cv.take_succ (l:=l) (i:=k) (by rw[Hn.out];exact hlt));generalize Cv.nth l k=x at *
   go_wp2_with fail
   refine HC.mono ?_;rintro e w2 ⟨rfl,hb2⟩;have HB2:=Y (ar HB hb2);clear hb2 c0 c1 c2 c3 c4 hcB;by_cases hx:x.id=id
   .have j7:(x.id==id)=true:=by simpa using hx
    have Hx:=Y hx;clear hx;rw[j7];simp only[];go_wp2;go_ret;refine⟨⟨k,rfl,?_⟩,HB2⟩;have:Cv.has l id=true:=by have e:l=l.take (k+1)++l.drop (k+1):=(List.take_append_drop _ _).symm;rw[e,HT.out];simp[Cv.has,j7]
    rw[this];simp
   .have j7:(x.id==id)=false:=by simpa using hx
    have BF:Cv.has (l.take (k+1)) id=false:=by have hh:=HN.out;rw[HT.out];unfold Cv.has at hh ⊢;rw[List.any_append,hh];simp[hx]
    have ql:=Y BF;clear hx BF;rw[j7];simp only[];go_wp2;exact⟨⟨k+1,by omega,by go_num,ql,HB2⟩,by simp[intOf];omega⟩
  .have aT:¬ (k:Int)<n:=by omega
   have ep:k=l.length:=by rw[Hn.out];omega
   have hno:=HN.out;rw[ep,List.take_length]at hno;have ql:=Y hno;clear hno ep;go_wp2;go_ret;exact⟨⟨-1,rfl,by rw[ql.out];rfl⟩,HB⟩
theorem adP(cap:Nat)(a:Option Addr)(f:Value)(w:World):
  Calls prog 265 #[.slice a 0 cap,f] w fun e w'=>e=.returned (Z (-1))/\w'=w:=by
 go_enter func265,ntmps265;go_wp2;refine wp_loop_rounds 1 ?_;rw[rounds_succ];go_wp2;go_ret;exact⟨rfl,rfl⟩
theorem aeO(b off cap B:Nat)(id:Int)(l:List Cv.af)(w:World)(hn':l.length<=1000)(hl:Hid (fU w b off l))(hc:w.cell? (O B 0)=some (Z id)):
  Calls prog 299 #[.slice (some (O b off)) l.length cap,.func (.func 300) #[] #[Rw B]] w fun e w'=>e=.returned (.bool (Cv.has l id))/\U w w':=by
 go_enter func299,ntmps299
 go_wp2_with fail
 refine(aeM b off cap B id l w hn' hl hc).mono ?_;rintro e w2 ⟨⟨r,rfl,hr⟩,hb⟩;have xh:=Y hr;clear hr;simp only[];go_wp2;go_ret;exact⟨jg xh,hb⟩
theorem aeG(b off cap n:Nat)(id:Int)(l:List Cv.af)(w:World)(hn:Hid (l.length=n))(hn':n<=1000)(hl:Hid (fU w b off l)):
  Calls prog 282 #[.slice (some (O b off)) n cap,Z id] w fun e w'=>e=.returned (.bool (Cv.has l id))/\U w w':=by
 have HC:=Y (aeO b off cap w.heap.size id l (w.alloc (.cells #[Z id] 3)) (by rw[hn.out];exact hn') (hl.later aj) (by simp));rw[hn.out]at HC;go_enter func282,ntmps282
 go_wp2_with fail
 refine HC.mono ?_;rintro e w2 ⟨rfl,hb⟩;have HB:=Y hb;clear hb;simp only[];go_wp2;go_ret;exact⟨rfl,aj.trans (HB.mono (by simp))⟩
theorem fU.take{w:World}{b off:Nat}{l:List Cv.af}(h:fU w b off l)(k:Nat):fU w b off (l.take k):=by intro i hi;rw[lKq]at hi;rw[Cv.aeK (by omega)];exact h i (by omega)
def my(on:Bool)(ak la:Int):Value:=.agg #[.bool on,Z ak,Z la]
namespace a_
def ac(a:Ask):Nat:=ah.code a.k a.c a.sq a.it a.sd a.pr a.q a.id
def aw(on:Bool)(ak:Int):Int:=if on=true then ak else 1
def tc(on:Bool)(ak:Int)(a:Ask):Nat:=if ac a=0 then (if (a.k==108)=on then 11 else if a.sq=aw on ak then 0 else 12) else ac a
def jJ(on:Bool)(ak:Int)(a:Ask):Bool:=if tc on ak a=0 then !(a.k==113) else on
def kA(on:Bool)(ak:Int)(a:Ask):Int:=if tc on ak a=0 then (if a.k=113 then 0 else a.sq+1) else ak
def iR(on:Bool)(ak la:Int)(a:Ask)(now:Int):Int:=if tc on ak a=0 then (if a.k=113 then 0 else now) else la
def late(on:Bool)(la now:Int):Bool:=on&&decide (la+5<now)
theorem anS(a:Ask):ac a<5:=by unfold ac ah.code;(repeat' split) <;> decide
theorem Zt(on:Bool)(ak:Int)(a:Ask):tc on ak a<=12:=by
 have:=anS a
 unfold tc
 repeat' split
 all_goals omega
theorem anT{a:Ask}(h:ac a=0):0<=a.sq/\a.sq<=1073741824:=by
 unfold ac ah.code at h;split at h
 .split at h
  .rename_i hb
   simp[ah.kF,ah.aK]at hb;omega
  .cases h
 .cases h
end a_
def wV(T:Nat->Value):Nat->Value
 | 0=>.nilIface
 | c+1=>.iface 412 (T c)
structure uK (w:World) (T:Nat->Value):Prop where
 st:w.cell? (O 10 0)=some (.iface 412 (T 10))
 IY:w.cell? (O 11 0)=some (.iface 412 (T 11))
 bd:w.cell? (O 1 0)=some (.iface 412 (T 1))
 sh:w.cell? (O 3 0)=some (.iface 412 (T 2))
 kd:w.cell? (O 4 0)=some (.iface 412 (T 3))
section
variable {w w':World} {T:Nat->Value}
theorem Ey{w w':World}{b o:Nat}{v:Value}(hb:U w w')(h:w.cell? (O b o)=some v):w'.cell? (O b o)=some v:=by rw[hb.cell (p:=(O b o)) (bCq w _ h)];exact h
theorem uK.later(h:uK w T)(hb:U w w'):uK w' T:=⟨Ey hb h.st,Ey hb h.IY,Ey hb h.bd,Ey hb h.sh,Ey hb h.kd⟩
theorem uK.size(h:uK w T):4<w.heap.size:=bCq w _ h.kd
theorem anU(a:Ask)(w:World)(he:uK w T):Calls prog 151 #[bM a] w fun e w'=>e=.returned (wV T (a_.ac a))/\U w w':=by
 obtain⟨aW,ac,bn,bw,asd,aR,aq,aP⟩:=a;have hz:=he.size;show Calls prog 151 #[.agg #[.int .u8 aW,Z ac,Z bn,Z bw,Z asd,Z aR,Z aq,Z aP]] w fun e w'=>e=.returned (wV T (ah.code aW ac bn bw asd aR aq aP))/\_;unfold ah.code;cases hk:ah.ny aW with
 | false=>exact JQ aW ac bn bw asd aR aq aP _ w (by omega) he.kd hk
 | true =>
  cases hb:ah.kF aW ac bn bw asd aR aq aP with
  | false=>exact JR aW ac bn bw asd aR aq aP _ w (by omega) he.bd hk hb
  | true =>
   cases hs:ah.ot aW bw asd aR aq aP with
   | false=>exact JU aW ac bn bw asd aR aq aP _ w (by omega) he.sh hk hb hs
   | true=>exact Fq aW ac bn bw asd aR aq aP w hk hb hs
theorem anV(on:Bool)(ak la:Int)(w:World):Calls prog 270 #[my on ak la] w fun e w'=>e=.returned (Z (a_.aw on ak))/\U w w':=by
 unfold my a_.aw;cases on
 all_goals
  go_enter func270,ntmps270;go_wp2;go_ret;exact⟨rfl,aj⟩
theorem anW(on:Bool)(ak la now:Int)(w:World)(hl:0<=la/\la<=1099511627776):Calls prog 131 #[my on ak la,Z now] w fun e w'=>e=.returned (.bool (a_.late on la now))/\U w w':=by
 unfold my a_.late;have h1:IntKind.i64.wrap (la+5)=la+5:=IntWalk.i64_in _ (by omega);cases on
 all_goals
  go_enter func131,ntmps131;go_wp2
  all_goals
   go_ret;refine⟨jg ?_,aj⟩;simp
end
theorem one_byte(x:Int)(w:World):(convert 115 9 (.slice (some (O w.heap.size 0)) 1 1)).run prog (w.alloc (.cells #[.int .u8 x] 5))=.ok (.string (strOfNums [x])) (w.alloc (.cells #[.int .u8 x] 5)) :=
 run_convert_bytes_arg (w.alloc (.cells #[.int .u8 x] 5)) 115 5 underlying115 underlying5 w.heap.size 0 1 1 [x] rfl (fun i hi=>by
  obtain rfl:i=0:=by omega
  simp) 9 underlying9
theorem R3(n:Int)(w:World):Calls prog 47 #[Z n] w fun e w'=>e=.returned (.string (strOfNums [n%256]))/\U w w':=by have hcv:=one_byte;go_enter func47,ntmps47;go_wp2;go_ret;exact⟨rfl,aj⟩
theorem R4{a b:ByteArray}(h:a=b):Ending.returned (.string a)=.returned (.string b):=by rw[h]
end Go.Proofs.YtjolccidheflpaaGreatDoor
