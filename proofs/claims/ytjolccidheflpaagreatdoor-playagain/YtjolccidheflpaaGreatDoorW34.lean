/- take: what a frame is, as a Reader tells it. -/
import Derived.Test.YtjolccidheflpaaGreatDoorW32
import Derived.Test.YtjolccidheflpaaGreatDoorW33
namespace Go.Proofs.YtjolccidheflpaaGreatDoor
set_option maxHeartbeats 8000000
set_option maxRecDepth 100000
open Go.RowKit
theorem XC (n:Nat) (hn:n<=12) (ad:Nat->Addr) (w:World) (hs:bO w ad) :
  Calls Tryz.prog 49 #[gy ad n] w fun e w'=>e=.returned (.tuple #[Qa n,Qa (-1)])/\Qd w w':=by
 by_cases h:n=0
 .subst h
  exact(acb w).mono fun e w' ⟨h1,h2⟩=>⟨h1,by rw[h2];exact bRq _ _⟩
 .rw[vX ad h]
  have:=acg (n-1) (by omega) ad w hs
  rw[show ((n-1:Nat):Int)+1=(n:Int) by omega]at this;exact this
def dc (s:ByteArray) (x:Nat):Nat:=if eu s=0 then x else 0
def pE (s:ByteArray):List Value:=[.int .u8 (dc s (aN s 0)),Qa (dc s (aN s 1)),Qa (dc s (aA s 2)),Qa (dc s (aN s 6)),Qa (dc s (aN s 7)),Qa (dc s (aA s 8)),Qa (dc s (aA s 12)),Qa (dc s (aA s 16)),Qa (eu s)]
theorem XD (s:ByteArray):rU s=.agg #[.int .u8 (dc s (aN s 0)),Qa (dc s (aN s 1)),Qa (dc s (aA s 2)),Qa (dc s (aN s 6)),Qa (dc s (aN s 7)),Qa (dc s (aA s 8)),Qa (dc s (aA s 12)),Qa (dc s (aA s 16))]:=by
 unfold rU dc;split <;> rfl
theorem adj (s:ByteArray) (ad:Nat->Addr) (w:World) (hs:Hid (bO w ad)) :
  Calls Tryz.prog 164 #[.string s] w fun e w'=>e=.returned (.agg (pE s).toArray)/\Qd w w':=by
 go_enter Tryz.func164,Tryz.ntmps164
 go_wp2_with fail
 refine(Rc s ad _ (hs.out.later ((bRq _ _).alloc (lRq _) _))).mono ?_;rintro e w1 ⟨rfl,hb1⟩;rw[XD];have HB1:Hid (Qd w w1):=((bRq _ _).alloc (lRq _) _).trans (hb1.mono (by simp));have HR1:Hid (w1.heap[w.heap.size]?=some (.cells #[.int .u8 0,Qa 0,Qa 0,Qa 0,Qa 0,Qa 0,Qa 0,Qa 0,Qa 0] 186 (0,0))):=by rw[Hid,hb1.block w.heap.size (by simp)];exact hNq w _
 have hz1:w.heap.size<w1.heap.size:=by have:=hb1.size;simp at this;omega
 have hle:=acW s;have HG:Hid (pE s=[.int .u8 (dc s (aN s 0)),Qa (dc s (aN s 1)),Qa (dc s (aA s 2)),Qa (dc s (aN s 6)),Qa (dc s (aN s 7)),Qa (dc s (aA s 8)),Qa (dc s (aA s 12)),Qa (dc s (aA s 16)),Qa (eu s)]):=rfl;generalize eu s=eY at *;generalize dc s (aN s 0)=x0 at *;generalize dc s (aN s 1)=x1 at *;generalize dc s (aA s 2)=x2 at *;generalize dc s (aN s 6)=x3 at *;generalize dc s (aN s 7)=x4 at *;generalize dc s (aA s 8)=x5 at *;generalize dc s (aA s 12)=x6 at *;generalize dc s (aA s 16)=x7 at *;clear hb1;simp only[]
 go_wp2_with fail
 have Oc:Hid (Qd w (w1.alloc (.cells #[.int .u8 x0,Qa x1,Qa x2,Qa x3,Qa x4,Qa x5,Qa x6,Qa x7] 95))):=HB1.out.alloc HB1.out.size _;refine(XC eY (by omega) ad _ (hs.out.later Oc.out)).mono ?_;rintro e w2 ⟨rfl,hb2⟩;have HB2:Hid (Qd w w2):=Oc.out.trans (hb2.mono Oc.out.size);have hz2:w1.heap.size<w2.heap.size:=by have:=hb2.size;simp at this;omega
 have ha2:w2.heap[w1.heap.size]?=some (.cells #[.int .u8 x0,Qa x1,Qa x2,Qa x3,Qa x4,Qa x5,Qa x6,Qa x7] 95 (0,0)):=by rw[hb2.block w1.heap.size (by simp)];exact hNq w1 _
 have hr2:w2.heap[w.heap.size]?=some (.cells #[.int .u8 0,Qa 0,Qa 0,Qa 0,Qa 0,Qa 0,Qa 0,Qa 0,Qa 0] 186 (0,0)):=by
  rw[hb2.block w.heap.size (by simp;omega),heap_alloc_old w1 _ hz1];exact HR1.out
 have A:∀ j,w2.cell? (Qb w1.heap.size j)=(#[.int .u8 x0,Qa x1,Qa x2,Qa x3,Qa x4,Qa x5,Qa x6,Qa x7]:Array Value)[j]?:=fun j=>cR w2 _ j _ 95 _ ha2;have R:∀ j,w2.cell? (Qb w.heap.size j)=(#[.int .u8 0,Qa 0,Qa 0,Qa 0,Qa 0,Qa 0,Qa 0,Qa 0,Qa 0]:Array Value)[j]?:=fun j=>cR w2 _ j _ 186 _ hr2;have Z:∀ j,w2.frozen? (Qb w.heap.size j)=false:=fun j=>frozen_of_row w2 _ j _ 186 hr2;clear hb2 ha2 hr2;simp only[];go_wp2;refine bodyPost_ret (v:=.agg #[.int .u8 x0,Qa x1,Qa x2,Qa x3,Qa x4,Qa x5,Qa x6,Qa x7,Qa eY]) (by simp[results,Tryz.results164,go_sem,R]) rfl ⟨by rw[HG.out],?_⟩
 iterate 9 refine Below.setCell (p:=(Qb w.heap.size _)) ?_ (lRq w.heap.size) _
 exact HB2.out
theorem ajs (s:ByteArray):(pE s).length=9:=rfl
theorem Rm (s:ByteArray):∀ u∈pE s,u.oneCell'=true:=by
 intro u hu;simp only[pE,List.mem_cons,List.not_mem_nil,or_false]at hu;rcases hu with rfl | rfl | rfl | rfl | rfl | rfl | rfl | rfl | rfl <;> rfl
def fr (s:ByteArray) (i:Nat):ByteArray:=s.extract (30*i) (30*i+30)
def gT (s:ByteArray):Nat->List Value
 | 0=>[]
 | n+1=>gT s n++pE (fr s n)
theorem HZ (s:ByteArray):∀ n,(gT s n).length=n*9
 | 0=>rfl
 | n+1=>by rw[gT,lAq,HZ s n,ajs];omega
theorem Hf (s:ByteArray):∀ n,∀ u∈gT s n,u.oneCell'=true
 | 0,u,hu=>by cases hu
 | n+1,u,hu=>by
  rcases List.mem_append.1 hu with h | h
  .exact Hf s n u h
  .exact Rm _ u h
theorem XE (s:ByteArray):∀ (n i j:Nat),i<n->j<9->(gT s n)[9*i+j]?=(pE (fr s i))[j]?
 | n+1,i,j,hi,hj=>by
  rw[gT];by_cases h:i<n
  .rw[List.getElem?_append_left (by rw[HZ];omega)]
   exact XE s n i j h hj
  .obtain rfl:i=n:=by omega
   rw[List.getElem?_append_right (by rw[HZ];omega),HZ];congr 1;omega
theorem XF (s:ByteArray) (m e i:Nat) (h:30*m+(30*i+30)<=e):fr (s.extract (30*m) e) i=fr s (m+i):=by
 unfold fr;rw[ByteArray.extract_extract];congr 1 <;> omega
theorem adb:∃ i z,Tryz.prog.info? 186=some i/\i.zero=some z/\i.size=9/\i.bytes=72/\z.cells.size=9:=⟨_,_,rfl,rfl,rfl,rfl,rfl⟩
def qH (w:World) (base:Nat) (v:Value) (t:ByteArray) (n:Nat):Prop:=w.ownsRow base 186 9 v n (gT t n)
def Rj:Value->Nat
 | .string s=>s.size
 | _=>0
theorem ade (t:ByteArray) (k:Nat) (h:30*(k+1)<=t.size):(t.extract (30*k) t.size).extract 0 30=fr t k:=by
 unfold fr;rw[ByteArray.extract_extract];congr 1;omega
theorem adf (t:ByteArray) (k:Nat) (h:30*(k+1)<=t.size):(t.extract (30*k) t.size).extract 30 (t.size-30*k)=t.extract (30*(k+1)) t.size:=by
 rw[ByteArray.extract_extract];congr 1 <;> omega
theorem adg (p o:Nat) (u s:ByteArray) (ad:Nat->Addr) (w:World) (hs:Hid (bO w ad)) (hp:w.cell? (Qb p o)=some (.string u)) (hf:w.frozen? (Qb p o)=false) (hz:(u++s).size<=100000) :
  Calls Tryz.prog 98 #[.pointer (some (Qb p o)),.string s] w fun e w'=>∃ v w1,e=.returned v/\qH w1 w.heap.size v (u++s) ((u++s).size/30)/\Qd w w1/\w'=w1.setCell (Qb p o) (.string ((u++s).extract (30*((u++s).size/30)) (u++s).size)):=by
 obtain⟨i61,z61,hi,hz0,hz1,hz2,hz3⟩:=adb;have Hi:=hDq hi;have eG:=hDq hz0;have eH:=hDq hz1;have eI:=hDq hz2;have kQ:=hDq hz3;clear hi hz0 hz1 hz2 hz3;have hpl:p<w.heap.size:=bCq _ _ hp;have hsz:u.size+s.size<=100000:=by simpa using hz
 go_enter Tryz.func98,Tryz.ntmps98;go_wp2;generalize ht:u++s=t at *;have Rk:=hDq ht;clear hsz ht
 go_loopw [1,5] (fun sv v wr=>∃ k:Nat,30*k<=t.size/\sv=.string (t.extract (30*k) t.size)/\qH wr w.heap.size v t k/\Qd w wr) (fun sv _ _=>Rj sv)
 case atStart=>exact⟨0,Nat.zero_le _,by simp,World.ownsRow_nil _ _ _ _,bRq _ _⟩
 case round =>
  obtain⟨k,hk,rfl,hg,hb⟩:=hrel;have HG:=hDq hg;have HB:=hDq hb;clear hg hb;have hes:(t.extract (30*k) t.size).size=t.size-30*k:=by simp
  by_cases hlt:30*(k+1)<=t.size
  .have HH:=hDq (ade t k hlt)
   have HT:=hDq (adf t k hlt);have aod:(t.extract (30*(k+1)) t.size).size=t.size-30*(k+1):=by simp
   generalize t.extract (30*k) t.size=x at *;have adh:30<=x.size:=by omega
   have adi:¬ (x.size:Int)<30:=by omega
   have aoe:(30:Int)<=x.size:=by omega
   go_wp2_with fail
   rw[HH.out];refine(adj (fr t k) ad _ (hs.out.later HB.out)).mono ?_;rintro e w2 ⟨rfl,hb2⟩;obtain⟨x0,x1,x2,x3,x4,x5,x6,x7,eY,JI⟩:∃ x0 x1 x2 x3 x4 x5 x6 x7 eY:Nat,pE (fr t k)=[.int .u8 x0,Qa x1,Qa x2,Qa x3,Qa x4,Qa x5,Qa x6,Qa x7,Qa eY]:=⟨_,_,_,_,_,_,_,_,_,rfl⟩;rw[JI];have Rl:=hDq JI;have HB2:Hid (Qd w w2):=HB.out.trans (hb2.mono HB.out.size);have vZ:Hid (qH w2 w.heap.size u5 t k):=HG.out.kept (row:=none) ⟨hb2.os,hb2.tape,hb2.output,hb2.size,fun j hj _=>hb2.block j hj⟩ (by cases u5.ownBlock <;> simp);clear JI hb2;simp only[]
   go_wp2_with (at_builtin;refine wpList_append_own _ rfl _ _ 183 rfl w.heap.size 186 i61 z61 9 72 Tryz.underlying183 Hi.out eG.out eH.out eI.out kQ.out (by decide) _ _ _ rfl (World.ownsRow.alloc vZ.out _) (Qb w2.heap.size 0) 1 1 [.int .u8 x0,Qa x1,Qa x2,Qa x3,Qa x4,Qa x5,Qa x6,Qa x7,Qa eY] rfl rfl ?c1 ?c2 ?c3 ?c4 ?c5 ?_)
   case c1 =>
    intro j u hj;have hp:(⟨w2.heap.size,0,none⟩:Addr).add j=(Qb w2.heap.size j):=by unfold Addr.add;split <;> simp_all
    rw[hp,cR _ _ j _ 186 _ (hNq w2 _)];simpa using hj
   case c2=>exact fun u hu=>Rm (fr t k) u (by rw[Rl.out];exact hu)
   case c3=>unfold maxLen;omega
   case c4=>omega
   case c5=>have:=HB2.out.size;simp;omega
   intro v3 w3 hown' hgrow _;have JJ:Hid (qH w3 w.heap.size v3 t (k+1)):=by
    show w3.ownsRow w.heap.size 186 9 v3 (k+1) (gT t k++pE (fr t k));rw[Rl.out];exact hown'
   have au:Hid (Qd w w3):=(HB2.out.alloc HB2.out.size _).grown hgrow (by have:=HB2.out.size;simp;omega) (fun k hk=>(World.ownsRow.lt vZ.out k hk).1);clear hown' hgrow;go_wp2;rw[HT.out];exact⟨⟨k+1,hlt,rfl,JJ.out,au.out⟩,by simp only[Rj];omega⟩
  .have adh:(t.size-30*k)<30:=by omega
   have adi:((t.extract (30*k) t.size).size:Int)<30:=by omega
   have dW:t.size/30=k:=by omega
   have yg:=hDq dW;clear dW;have hps:(t.extract (30*k) t.size).size<=281474976710656:=by omega
   generalize hX:t.extract (30*k) t.size=x at *;have HX:=hDq hX;clear hX
   go_wp2_with fail
   refine(QS x wr hps).mono ?_;rintro e w2 ⟨rfl,hb2⟩;have HB2:Hid (Qd w w2):=HB.out.trans (hb2.mono HB.out.size);have vZ:Hid (qH w2 w.heap.size u5 t k):=HG.out.kept (row:=none) ⟨hb2.os,hb2.tape,hb2.output,hb2.size,fun j hj _=>hb2.block j hj⟩ (by cases u5.ownBlock <;> simp);have hp2:w2.cell? (Qb p o)=some (.string u):=by rw[HB2.out.cell (p:=(Qb p o)) hpl];exact hp
   have hf2:w2.frozen? (Qb p o)=false:=by rw[HB2.out.frozen (p:=(Qb p o)) hpl];exact hf
   clear hb2;simp only[];go_wp2;go_ret;exact⟨u5,w2,rfl,by rw[Rk.out,yg.out];exact vZ.out,HB2.out,by rw[Rk.out,yg.out,HX.out]⟩
end Go.Proofs.YtjolccidheflpaaGreatDoor
