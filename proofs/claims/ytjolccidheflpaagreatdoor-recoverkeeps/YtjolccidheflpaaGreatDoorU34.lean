/- take: what a frame is, as a Reader tells it. -/
import Derived.Test.YtjolccidheflpaaGreatDoorU32
import Derived.Test.YtjolccidheflpaaGreatDoorU33
namespace Go.Proofs.YtjolccidheflpaaGreatDoor
set_option maxHeartbeats 8000000
open Go.RowKit
set_option maxRecDepth 100000
theorem WA (n:Nat) (hn:n<=12) (ad:Nat->Addr) (w:World) (hs:bT w ad) :
  Calls Tryz.prog 49 #[gq ad n] w fun e w'=>e=.returned (.tuple #[.int .i64 n,.int .i64 (-1)])∧Below w.heap.size w w':=by
 by_cases h:n=0
 ·subst h
  exact(aca w).mono fun e w' ⟨h1,h2⟩=>⟨h1,by rw[h2];exact bRq _ _⟩
 ·rw[xN ad h]
  have:=acf (n-1) (by omega) ad w hs
  rw[show ((n-1:Nat):Int)+1=(n:Int) by omega]at this;exact this
def cZ (s:ByteArray) (x:Nat):Nat:=if d6 s=0 then x else 0
def oZ (s:ByteArray):List Value:=[.int .u8 (cZ s (aL s 0)),.int .i64 (cZ s (aL s 1)),.int .i64 (cZ s (az s 2)),.int .i64 (cZ s (aL s 6)),.int .i64 (cZ s (aL s 7)),.int .i64 (cZ s (az s 8)),.int .i64 (cZ s (az s 12)),.int .i64 (cZ s (az s 16)),.int .i64 (d6 s)]
theorem WB (s:ByteArray):rF s=.agg #[.int .u8 (cZ s (aL s 0)),.int .i64 (cZ s (aL s 1)),.int .i64 (cZ s (az s 2)),.int .i64 (cZ s (aL s 6)),.int .i64 (cZ s (aL s 7)),.int .i64 (cZ s (az s 8)),.int .i64 (cZ s (az s 12)),.int .i64 (cZ s (az s 16))]:=by
 unfold rF cZ;split <;> rfl
theorem adp (s:ByteArray) (ad:Nat->Addr) (w:World) (hs:Hid (bT w ad)) :
  Calls Tryz.prog 164 #[.string s] w fun e w'=>e=.returned (.agg (oZ s).toArray)∧Below w.heap.size w w':=by
 go_enter Tryz.func164,Tryz.ntmps164
 go_wp2_with fail
 refine(Re s ad _ (hs.out.later ((bRq _ _).alloc (lRq _) _))).mono ?_;rintro e w1 ⟨rfl,hb1⟩;rw[WB];have HB1:Hid (Below w.heap.size w w1):=((bRq _ _).alloc (lRq _) _).trans (hb1.mono (by simp));have HR1:Hid (w1.heap[w.heap.size]?=some (.cells #[.int .u8 0,.int .i64 0,.int .i64 0,.int .i64 0,.int .i64 0,.int .i64 0,.int .i64 0,.int .i64 0,.int .i64 0] 186 (0,0))):=by rw[Hid,hb1.block w.heap.size (by simp)];exact hNq w _
 have hz1:w.heap.size<w1.heap.size:=by have:=hb1.size;simp at this;omega
 have hle:=ac1 s;have HG:Hid (oZ s=[.int .u8 (cZ s (aL s 0)),.int .i64 (cZ s (aL s 1)),.int .i64 (cZ s (az s 2)),.int .i64 (cZ s (aL s 6)),.int .i64 (cZ s (aL s 7)),.int .i64 (cZ s (az s 8)),.int .i64 (cZ s (az s 12)),.int .i64 (cZ s (az s 16)),.int .i64 (d6 s)]):=rfl;generalize d6 s=eL at *;generalize cZ s (aL s 0)=x0 at *;generalize cZ s (aL s 1)=x1 at *;generalize cZ s (az s 2)=x2 at *;generalize cZ s (aL s 6)=x3 at *;generalize cZ s (aL s 7)=x4 at *;generalize cZ s (az s 8)=x5 at *;generalize cZ s (az s 12)=x6 at *;generalize cZ s (az s 16)=x7 at *;clear hb1;simp only[]
 go_wp2_with fail
 have Nz:Hid (Below w.heap.size w (w1.alloc (.cells #[.int .u8 x0,.int .i64 x1,.int .i64 x2,.int .i64 x3,.int .i64 x4,.int .i64 x5,.int .i64 x6,.int .i64 x7] 95))):=HB1.out.alloc HB1.out.size _;refine(WA eL (by omega) ad _ (hs.out.later Nz.out)).mono ?_;rintro e w2 ⟨rfl,hb2⟩;have HB2:Hid (Below w.heap.size w w2):=Nz.out.trans (hb2.mono Nz.out.size);have hz2:w1.heap.size<w2.heap.size:=by have:=hb2.size;simp at this;omega
 have ha2:w2.heap[w1.heap.size]?=some (.cells #[.int .u8 x0,.int .i64 x1,.int .i64 x2,.int .i64 x3,.int .i64 x4,.int .i64 x5,.int .i64 x6,.int .i64 x7] 95 (0,0)):=by rw[hb2.block w1.heap.size (by simp)];exact hNq w1 _
 have hr2:w2.heap[w.heap.size]?=some (.cells #[.int .u8 0,.int .i64 0,.int .i64 0,.int .i64 0,.int .i64 0,.int .i64 0,.int .i64 0,.int .i64 0,.int .i64 0] 186 (0,0)):=by
  rw[hb2.block w.heap.size (by simp;omega),heap_alloc_old w1 _ hz1];exact HR1.out
 have A:∀ j,w2.cell? ⟨w1.heap.size,j,none⟩=(#[.int .u8 x0,.int .i64 x1,.int .i64 x2,.int .i64 x3,.int .i64 x4,.int .i64 x5,.int .i64 x6,.int .i64 x7]:Array Value)[j]?:=fun j=>cR w2 _ j _ 95 _ ha2;have R:∀ j,w2.cell? ⟨w.heap.size,j,none⟩=(#[.int .u8 0,.int .i64 0,.int .i64 0,.int .i64 0,.int .i64 0,.int .i64 0,.int .i64 0,.int .i64 0,.int .i64 0]:Array Value)[j]?:=fun j=>cR w2 _ j _ 186 _ hr2;have Z:∀ j,w2.frozen? ⟨w.heap.size,j,none⟩=false:=fun j=>frozen_of_row w2 _ j _ 186 hr2;clear hb2 ha2 hr2;simp only[];go_wp2;refine bodyPost_ret (v:=.agg #[.int .u8 x0,.int .i64 x1,.int .i64 x2,.int .i64 x3,.int .i64 x4,.int .i64 x5,.int .i64 x6,.int .i64 x7,.int .i64 eL]) (by simp[results,Tryz.results164,go_sem,R]) rfl ⟨by rw[HG.out],?_⟩
 iterate 9 refine Below.setCell (p:=⟨w.heap.size,_,none⟩) ?_ (lRq w.heap.size) _
 exact HB2.out
theorem aiE (s:ByteArray):(oZ s).length=9:=rfl
theorem Rn (s:ByteArray):∀ u∈oZ s,u.oneCell'=true:=by
 intro u hu;simp only[oZ,List.mem_cons,List.not_mem_nil,or_false]at hu;rcases hu with rfl | rfl | rfl | rfl | rfl | rfl | rfl | rfl | rfl <;> rfl
def fr (s:ByteArray) (i:Nat):ByteArray:=s.extract (30*i) (30*i+30)
def gJ (s:ByteArray):Nat->List Value
 | 0=>[]
 | n+1=>gJ s n++oZ (fr s n)
theorem G7 (s:ByteArray):∀ n,(gJ s n).length=n*9
 | 0=>rfl
 | n+1=>by rw[gJ,lAq,G7 s n,aiE];omega
theorem GL (s:ByteArray):∀ n,∀ u∈gJ s n,u.oneCell'=true
 | 0,u,hu=>by cases hu
 | n+1,u,hu=>by
  rcases List.mem_append.1 hu with h | h
  ·exact GL s n u h
  ·exact Rn _ u h
theorem WC (s:ByteArray):∀ (n i j:Nat),i<n->j<9->(gJ s n)[9*i+j]?=(oZ (fr s i))[j]?
 | n+1,i,j,hi,hj=>by
  rw[gJ];by_cases h:i<n
  ·rw[List.getElem?_append_left (by rw[G7];omega)]
   exact WC s n i j h hj
  ·obtain rfl:i=n:=by omega
   rw[List.getElem?_append_right (by rw[G7];omega),G7];congr 1;omega
theorem adi:∃ i z,Tryz.prog.info? 186=some i∧i.zero=some z∧i.size=9∧i.bytes=72∧z.cells.size=9:=⟨_,_,rfl,rfl,rfl,rfl,rfl⟩
def qf (w:World) (base:Nat) (v:Value) (t:ByteArray) (n:Nat):Prop:=w.ownsRow base 186 9 v n (gJ t n)
def Rk:Value->Nat
 | .string s=>s.size
 | _=>0
theorem adj (t:ByteArray) (k:Nat) (h:30*(k+1)<=t.size):(t.extract (30*k) t.size).extract 0 30=fr t k:=by
 unfold fr;rw[ByteArray.extract_extract];congr 1;omega
theorem adk (t:ByteArray) (k:Nat) (h:30*(k+1)<=t.size):(t.extract (30*k) t.size).extract 30 (t.size-30*k)=t.extract (30*(k+1)) t.size:=by
 rw[ByteArray.extract_extract];congr 1 <;> omega
theorem adl (p o:Nat) (u s:ByteArray) (ad:Nat->Addr) (w:World) (hs:Hid (bT w ad)) (hp:w.cell? ⟨p,o,none⟩=some (.string u)) (hf:w.frozen? ⟨p,o,none⟩=false) (hz:(u++s).size<=100000) :
  Calls Tryz.prog 98 #[.pointer (some ⟨p,o,none⟩),.string s] w fun e w'=>∃ v w1,e=.returned v∧qf w1 w.heap.size v (u++s) ((u++s).size/30)∧Below w.heap.size w w1∧w'=w1.setCell ⟨p,o,none⟩ (.string ((u++s).extract (30*((u++s).size/30)) (u++s).size)):=by
 obtain⟨i61,z61,hi,hz0,hz1,hz2,hz3⟩:=adi;have Hi:=hDq hi;have ew:=hDq hz0;have ez:=hDq hz1;have eA:=hDq hz2;have kB:=hDq hz3;clear hi hz0 hz1 hz2 hz3;have hpl:p<w.heap.size:=bCq _ _ hp;have hsz:u.size+s.size<=100000:=by simpa using hz
 go_enter Tryz.func98,Tryz.ntmps98;go_wp2;generalize ht:u++s=t at *;have Rl:=hDq ht;clear hsz ht
 go_loopw [1,5] (fun sv v wr=>∃ k:Nat,30*k<=t.size∧sv=.string (t.extract (30*k) t.size)∧qf wr w.heap.size v t k∧Below w.heap.size w wr) (fun sv _ _=>Rk sv)
 case atStart=>exact⟨0,Nat.zero_le _,by simp,World.ownsRow_nil _ _ _ _,bRq _ _⟩
 case round =>
  obtain⟨k,hk,rfl,hg,hb⟩:=hrel;have HG:=hDq hg;have HB:=hDq hb;clear hg hb;have hes:(t.extract (30*k) t.size).size=t.size-30*k:=by simp
  by_cases hlt:30*(k+1)<=t.size
  ·have HH:=hDq (adj t k hlt)
   have HT:=hDq (adk t k hlt);have an2:(t.extract (30*(k+1)) t.size).size=t.size-30*(k+1):=by simp
   generalize t.extract (30*k) t.size=x at *;have adn:30<=x.size:=by omega
   have ado:¬ (x.size:Int)<30:=by omega
   have an3:(30:Int)<=x.size:=by omega
   go_wp2_with fail
   rw[HH.out];refine(adp (fr t k) ad _ (hs.out.later HB.out)).mono ?_;rintro e w2 ⟨rfl,hb2⟩;obtain⟨x0,x1,x2,x3,x4,x5,x6,x7,eL,JJ⟩:∃ x0 x1 x2 x3 x4 x5 x6 x7 eL:Nat,oZ (fr t k)=[.int .u8 x0,.int .i64 x1,.int .i64 x2,.int .i64 x3,.int .i64 x4,.int .i64 x5,.int .i64 x6,.int .i64 x7,.int .i64 eL]:=⟨_,_,_,_,_,_,_,_,_,rfl⟩;rw[JJ];have Rm:=hDq JJ;have HB2:Hid (Below w.heap.size w w2):=HB.out.trans (hb2.mono HB.out.size);have vI:Hid (qf w2 w.heap.size u5 t k):=HG.out.kept (row:=none) ⟨hb2.os,hb2.tape,hb2.output,hb2.size,fun j hj _=>hb2.block j hj⟩ (by cases u5.ownBlock <;> simp);clear JJ hb2;simp only[]
   go_wp2_with (at_builtin;refine wpList_append_own _ rfl _ _ 183 rfl w.heap.size 186 i61 z61 9 72 Tryz.underlying183 Hi.out ew.out ez.out eA.out kB.out (by decide) _ _ _ rfl (World.ownsRow.alloc vI.out _) ⟨w2.heap.size,0,none⟩ 1 1 [.int .u8 x0,.int .i64 x1,.int .i64 x2,.int .i64 x3,.int .i64 x4,.int .i64 x5,.int .i64 x6,.int .i64 x7,.int .i64 eL] rfl rfl ?c1 ?c2 ?c3 ?c4 ?c5 ?_)
   case c1 =>
    intro j u hj;have hp:(⟨w2.heap.size,0,none⟩:Addr).add j=⟨w2.heap.size,j,none⟩:=by unfold Addr.add;split <;> simp_all
    rw[hp,cR _ _ j _ 186 _ (hNq w2 _)];simpa using hj
   case c2=>exact fun u hu=>Rn (fr t k) u (by rw[Rm.out];exact hu)
   case c3=>unfold maxLen;omega
   case c4=>omega
   case c5=>have:=HB2.out.size;simp;omega
   intro v3 w3 hown' hgrow _;have JK:Hid (qf w3 w.heap.size v3 t (k+1)):=by
    show w3.ownsRow w.heap.size 186 9 v3 (k+1) (gJ t k++oZ (fr t k));rw[Rm.out];exact hown'
   have ar:Hid (Below w.heap.size w w3):=(HB2.out.alloc HB2.out.size _).grown hgrow (by have:=HB2.out.size;simp;omega) (fun k hk=>(World.ownsRow.lt vI.out k hk).1);clear hown' hgrow;go_wp2;rw[HT.out];exact⟨⟨k+1,hlt,rfl,JK.out,ar.out⟩,by simp only[Rk];omega⟩
  ·have adn:(t.size-30*k)<30:=by omega
   have ado:((t.extract (30*k) t.size).size:Int)<30:=by omega
   have dK:t.size/30=k:=by omega
   have xM:=hDq dK;clear dK;have hps:(t.extract (30*k) t.size).size<=281474976710656:=by omega
   generalize hX:t.extract (30*k) t.size=x at *;have HX:=hDq hX;clear hX
   go_wp2_with fail
   refine(QR x wr hps).mono ?_;rintro e w2 ⟨rfl,hb2⟩;have HB2:Hid (Below w.heap.size w w2):=HB.out.trans (hb2.mono HB.out.size);have vI:Hid (qf w2 w.heap.size u5 t k):=HG.out.kept (row:=none) ⟨hb2.os,hb2.tape,hb2.output,hb2.size,fun j hj _=>hb2.block j hj⟩ (by cases u5.ownBlock <;> simp);have hp2:w2.cell? ⟨p,o,none⟩=some (.string u):=by rw[HB2.out.cell (p:=⟨p,o,none⟩) hpl];exact hp
   have hf2:w2.frozen? ⟨p,o,none⟩=false:=by rw[HB2.out.frozen (p:=⟨p,o,none⟩) hpl];exact hf
   clear hb2;simp only[];go_wp2;go_ret;exact⟨u5,w2,rfl,by rw[Rl.out,xM.out];exact vI.out,HB2.out,by rw[Rl.out,xM.out,HX.out]⟩
end Go.Proofs.YtjolccidheflpaaGreatDoor
