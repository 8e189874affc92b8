/- take: what a frame is, as a Reader tells it. -/
import Derived.Test.YtjolccidheflpaaGreatDoorX31
import Derived.Test.YtjolccidheflpaaGreatDoorX32
namespace Go.Proofs.YtjolccidheflpaaGreatDoor
open Go.Proofs.Tryz
set_option maxHeartbeats 8000000
set_option maxRecDepth 100000
open Go.RowKit
theorem O4(n:Nat)(hn:n<=12)(ad:Nat->Addr)(w:World)(hs:bJ w ad):
  Calls prog 49 #[fq ad n] w fun e w'=>e=.returned (.tuple #[Z n,Z (-1)])/\U w w':=by
 by_cases h:n=0
 .subst h
  exact(aes w).mono fun e w' ⟨h1,h2⟩=>⟨h1,by rw[h2];exact bRq _ _⟩
 .rw[xy ad h]
  have:=aew (n-1) (by omega) ad w hs
  rw[show ((n-1:Nat):Int)+1=(n:Int) by omega]at this;exact this
def dv(s:ByteArray)(x:Nat):Nat:=if eM s=0 then x else 0
def qq(s:ByteArray):List Value:=[.int .u8 (dv s (aS s 0)),Z (dv s (aS s 1)),Z (dv s (aJ s 2)),Z (dv s (aS s 6)),Z (dv s (aS s 7)),Z (dv s (aJ s 8)),Z (dv s (aJ s 12)),Z (dv s (aJ s 16)),Z (eM s)]
theorem aac(s:ByteArray):s4 s=.agg #[.int .u8 (dv s (aS s 0)),Z (dv s (aS s 1)),Z (dv s (aJ s 2)),Z (dv s (aS s 6)),Z (dv s (aS s 7)),Z (dv s (aJ s 8)),Z (dv s (aJ s 12)),Z (dv s (aJ s 16))]:=by unfold s4 dv;split <;> rfl
theorem afr(s:ByteArray)(ad:Nat->Addr)(w:World)(hs:Hid (bJ w ad)):
  Calls prog 164 #[.string s] w fun e w'=>e=.returned (.agg (qq s).toArray)/\U w w':=by
 go_enter func164,ntmps164
 go_wp2_with fail
 refine(S4 s ad _ (hs.later aj)).mono ?_;rintro e w1 ⟨rfl,hb1⟩;rw[aac];have HB1:Hid (U w w1):=aj.trans (hb1.mono (by simp));have HR1:Hid (w1.heap[w.heap.size]?=some (.cells #[.int .u8 0,Z 0,Z 0,Z 0,Z 0,Z 0,Z 0,Z 0,Z 0] 186 (0,0))):=by rw[Hid,hb1.block w.heap.size (by simp)];exact hNq w _
 have hz1:w.heap.size<w1.heap.size:=by have:=hb1.size;simp at this;omega
 have hle:=S7 s;have HG:Hid (qq s=[.int .u8 (dv s (aS s 0)),Z (dv s (aS s 1)),Z (dv s (aJ s 2)),Z (dv s (aS s 6)),Z (dv s (aS s 7)),Z (dv s (aJ s 8)),Z (dv s (aJ s 12)),Z (dv s (aJ s 16)),Z (eM s)]):=rfl;generalize eM s=fV at *;generalize dv s (aS s 0)=x0 at *;generalize dv s (aS s 1)=x1 at *;generalize dv s (aJ s 2)=x2 at *;generalize dv s (aS s 6)=x3 at *;generalize dv s (aS s 7)=x4 at *;generalize dv s (aJ s 8)=x5 at *;generalize dv s (aJ s 12)=x6 at *;generalize dv s (aJ s 16)=x7 at *;clear hb1;simp only[]
 go_wp2_with fail
 have aad:Hid (U w (w1.alloc (.cells #[.int .u8 x0,Z x1,Z x2,Z x3,Z x4,Z x5,Z x6,Z x7] 95))):=HB1.alloc HB1.size _;refine(O4 fV (by omega) ad _ (hs.later aad)).mono ?_;rintro e w2 ⟨rfl,hb2⟩;have HB2:Hid (U w w2):=ar aad hb2;have hz2:w1.heap.size<w2.heap.size:=by have:=hb2.size;simp at this;omega
 have ha2:w2.heap[w1.heap.size]?=some (.cells #[.int .u8 x0,Z x1,Z x2,Z x3,Z x4,Z x5,Z x6,Z x7] 95 (0,0)):=by rw[hb2.block w1.heap.size (by simp)];exact hNq w1 _
 have hr2:w2.heap[w.heap.size]?=some (.cells #[.int .u8 0,Z 0,Z 0,Z 0,Z 0,Z 0,Z 0,Z 0,Z 0] 186 (0,0)):=by rw[hb2.block w.heap.size (by simp;omega),heap_alloc_old w1 _ hz1];exact HR1
 have A:∀j,w2.cell? (O w1.heap.size j)=(#[.int .u8 x0,Z x1,Z x2,Z x3,Z x4,Z x5,Z x6,Z x7]:Array Value)[j]?:=fun j=>cR w2 _ j _ 95 _ ha2;have R:∀j,w2.cell? (O w.heap.size j)=(#[.int .u8 0,Z 0,Z 0,Z 0,Z 0,Z 0,Z 0,Z 0,Z 0]:Array Value)[j]?:=fun j=>cR w2 _ j _ 186 _ hr2;have Zqq:∀j,w2.frozen? (O w.heap.size j)=false:=fun j=>frozen_of_row w2 _ j _ 186 hr2;clear hb2 ha2 hr2;simp only[];go_wp2;refine bodyPost_ret (v:=.agg #[.int .u8 x0,Z x1,Z x2,Z x3,Z x4,Z x5,Z x6,Z x7,Z fV]) (by simp[results,results164,go_sem,R]) rfl ⟨by rw[HG.out],?_⟩
 iterate 9 refine Below.setCell (p:=(O w.heap.size _)) ?_ (E w.heap.size) _
 exact HB2
theorem aoc(s:ByteArray):(qq s).length=9:=rfl
theorem Te(s:ByteArray):∀u∈qq s,u.oneCell'=true:=by intro u hu;simp only[qq,List.mem_cons,List.not_mem_nil,or_false]at hu;rcases hu with rfl | rfl | rfl | rfl | rfl | rfl | rfl | rfl | rfl <;> rfl
def fr(s:ByteArray)(i:Nat):ByteArray:=s.extract (30*i) (30*i+30)
def iL(s:ByteArray):Nat->List Value
 | 0=>[]
 | n+1=>iL s n++qq (fr s n)
theorem I0(s:ByteArray):∀n,(iL s n).length=n*9
 | 0=>rfl
 | n+1=>by rw[iL,lAq,I0 s n,aoc];omega
theorem Hu(s:ByteArray):∀n,∀u∈iL s n,u.oneCell'=true
 | 0,u,hu=>by cases hu
 | n+1,u,hu=>by
  rcases List.mem_append.1 hu with h | h
  .exact Hu s n u h
  .exact Te _ u h
theorem aae(s:ByteArray):∀(n i j:Nat),i<n->j<9->(iL s n)[9*i+j]?=(qq (fr s i))[j]?
 | n+1,i,j,hi,hj=>by
  rw[iL];by_cases h:i<n
  .rw[List.getElem?_append_left (by rw[I0];omega)]
   exact aae s n i j h hj
  .obtain rfl:i=n:=by omega
   rw[List.getElem?_append_right (by rw[I0];omega),I0];congr 1;omega
theorem aaf(s:ByteArray)(m e i:Nat)(h:30*m+(30*i+30)<=e):fr (s.extract (30*m) e) i=fr s (m+i):=by unfold fr;rw[ByteArray.extract_extract];congr 1 <;> omega
theorem afl:∃i z,prog.info? 186=some i/\i.zero=some z/\i.size=9/\i.bytes=72/\z.cells.size=9:=⟨_,_,rfl,rfl,rfl,rfl,rfl⟩
def rO(w:World)(base:Nat)(v:Value)(t:ByteArray)(n:Nat):Prop:=w.ownsRow base 186 9 v n (iL t n)
def Tb:Value->Nat
 | .string s=>s.size
 | _=>0
theorem afm(t:ByteArray)(k:Nat)(h:30*(k+1)<=t.size):(t.extract (30*k) t.size).extract 0 30=fr t k:=by unfold fr;rw[ByteArray.extract_extract];congr 1;omega
theorem afn(t:ByteArray)(k:Nat)(h:30*(k+1)<=t.size):(t.extract (30*k) t.size).extract 30 (t.size-30*k)=t.extract (30*(k+1)) t.size:=by rw[ByteArray.extract_extract];congr 1 <;> omega
theorem afo(p o:Nat)(u s:ByteArray)(ad:Nat->Addr)(w:World)(hs:Hid (bJ w ad))(hp:w.cell? (O p o)=some (.string u))(hf:w.frozen? (O p o)=false)(hz:(u++s).size<=100000):
  Calls prog 98 #[.pointer (some (O p o)),.string s] w fun e w'=>∃v w1,e=.returned v/\rO w1 w.heap.size v (u++s) ((u++s).size/30)/\U w w1/\w'=w1.setCell (O p o) (.string ((u++s).extract (30*((u++s).size/30)) (u++s).size)):=by
 obtain⟨i61,z61,hi,hz0,hz1,hz2,hz3⟩:=afl;have Hi:=Y hi;have fe:=Y hz0;have fg:=Y hz1;have fh:=Y hz2;have lM:=Y hz3;clear hi hz0 hz1 hz2 hz3;have hpl:p<w.heap.size:=bCq _ _ hp;have hsz:u.size+s.size<=100000:=by simpa using hz
 go_enter func98,ntmps98;go_wp2;generalize ht:u++s=t at *;have Tc:=Y ht;clear hsz ht
 go_loopw [1,5] (fun sv v wr=>∃k:Nat,30*k<=t.size/\sv=.string (t.extract (30*k) t.size)/\rO wr w.heap.size v t k/\U w wr) (fun sv _ _=>Tb sv)
 case atStart=>exact⟨0,Nat.zero_le _,by simp,World.ownsRow_nil _ _ _ _,bRq _ _⟩
 case round =>
  obtain⟨k,hk,rfl,hg,hb⟩:=hrel;have HG:=Y hg;have HB:=Y hb;clear hg hb;have hes:(t.extract (30*k) t.size).size=t.size-30*k:=by simp
  by_cases hlt:30*(k+1)<=t.size
  .have HH:=Y (afm t k hlt)
   have HT:=Y (afn t k hlt);have as1:(t.extract (30*(k+1)) t.size).size=t.size-30*(k+1):=by simp
   generalize t.extract (30*k) t.size=x at *;have afp:30<=x.size:=by omega
   have afq:¬ (x.size:Int)<30:=by omega
   have as2:(30:Int)<=x.size:=by omega
   go_wp2_with fail
   rw[HH.out];refine(afr (fr t k) ad _ (hs.later HB)).mono ?_;rintro e w2 ⟨rfl,hb2⟩;obtain⟨x0,x1,x2,x3,x4,x5,x6,x7,fV,Ki⟩:∃x0 x1 x2 x3 x4 x5 x6 x7 fV:Nat,qq (fr t k)=[.int .u8 x0,Z x1,Z x2,Z x3,Z x4,Z x5,Z x6,Z x7,Z fV]:=⟨_,_,_,_,_,_,_,_,_,rfl⟩;rw[Ki];have Td:=Y Ki;have HB2:Hid (U w w2):=ar HB hb2;have zG:Hid (rO w2 w.heap.size u5 t k):=HG.kept (row:=none) ⟨hb2.os,hb2.tape,hb2.output,hb2.size,fun j hj _=>hb2.block j hj⟩ (by cases u5.ownBlock <;> simp);clear Ki hb2;simp only[]
   go_wp2_with (at_builtin;refine wpList_append_own _ rfl _ _ 183 rfl w.heap.size 186 i61 z61 9 72 underlying183 Hi fe fg fh lM (by decide) _ _ _ rfl (World.ownsRow.alloc zG _) (O w2.heap.size 0) 1 1 [.int .u8 x0,Z x1,Z x2,Z x3,Z x4,Z x5,Z x6,Z x7,Z fV] rfl rfl ?c1 ?c2 ?c3 ?c4 ?c5 ?_)
   case c1 =>
    intro j u hj;have hp:(⟨w2.heap.size,0,none⟩:Addr).add j=(O w2.heap.size j):=by unfold Addr.add;split <;> simp_all
    rw[hp,cR _ _ j _ 186 _ (hNq w2 _)];simpa using hj
   case c2=>exact fun u hu=>Te (fr t k) u (by rw[Td.out];exact hu)
   case c3=>unfold maxLen;omega
   case c4=>omega
   case c5=>have:=HB2.size;simp;omega
   intro v3 w3 hown' hgrow _;have Kj:Hid (rO w3 w.heap.size v3 t (k+1)):=by show w3.ownsRow w.heap.size 186 9 v3 (k+1) (iL t k++qq (fr t k));rw[Td.out];exact hown'
   have av:Hid (U w w3):=(HB2.alloc HB2.size _).grown hgrow (by have:=HB2.size;simp;omega) (fun k hk=>(World.ownsRow.lt zG k hk).1);clear hown' hgrow;go_wp2;rw[HT.out];exact⟨⟨k+1,hlt,rfl,Kj,av⟩,by simp only[Tb];omega⟩
  .have afp:(t.size-30*k)<30:=by omega
   have afq:((t.extract (30*k) t.size).size:Int)<30:=by omega
   have ep:t.size/30=k:=by omega
   have zA:=Y ep;clear ep;have hps:(t.extract (30*k) t.size).size<=281474976710656:=by omega
   generalize hX:t.extract (30*k) t.size=x at *;have HX:=Y hX;clear hX
   go_wp2_with fail
   refine(SE x wr hps).mono ?_;rintro e w2 ⟨rfl,hb2⟩;have HB2:Hid (U w w2):=ar HB hb2;have zG:Hid (rO w2 w.heap.size u5 t k):=HG.kept (row:=none) ⟨hb2.os,hb2.tape,hb2.output,hb2.size,fun j hj _=>hb2.block j hj⟩ (by cases u5.ownBlock <;> simp);have hp2:=(HB2.cell (p:=(O p o)) hpl).trans hp;have hf2:=(HB2.frozen (p:=(O p o)) hpl).trans hf;clear hb2;simp only[];go_wp2;go_ret;exact⟨u5,w2,rfl,by rw[Tc.out,zA.out];exact zG,HB2,by rw[Tc.out,zA.out,HX.out]⟩
end Go.Proofs.YtjolccidheflpaaGreatDoor
