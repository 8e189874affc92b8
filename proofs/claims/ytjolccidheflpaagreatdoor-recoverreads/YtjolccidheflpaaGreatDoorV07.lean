/- The readers of numbers in bytes: four.Low and four.High, at every text of at least four bytes. -/
import Derived.Test.YtjolccidheflpaaGreatDoorV03
import Derived.Deep.QuietTactic
import Derived.BigQuiet
import Derived.Test.YtjolccidheflpaaGreatDoorV00
namespace Go.Proofs.YtjolccidheflpaaGreatDoor
set_option maxHeartbeats 8000000
open Go.RowKit
set_option maxRecDepth 100000
def az (s:ByteArray) (i:Nat):Nat:=(s.data.toList.getD i 0).toNat
theorem gW (s:ByteArray) (i:Nat):az s i<256:=by unfold az;exact UInt8.toNat_lt _
theorem fW (s:ByteArray) (i:Nat) (h:i<s.size):(s[i]).toNat=az s i:=by
 have h':i<s.data.toList.length:=by simpa using h
 unfold az;rw[gE,List.getElem?_eq_getElem h'];rfl
def dm (s:ByteArray) (i:Nat):Nat:=az s i+256*az s (i+1)+65536*az s (i+2)+16777216*az s (i+3)
def av (s:ByteArray) (i:Nat):Nat:=16777216*az s i+65536*az s (i+1)+256*az s (i+2)+az s (i+3)
theorem MI (x y:Nat) (i:Nat) (hx:x<2 ^ i) (hy:y%2 ^ i=0) (h1:x<4294967296) (h2:y<4294967296):bits .or .u32 (x:Int) (y:Int)=((x+y:Nat):Int):=by
 rw[u32_or_nat x y h1 h2,Nat.or_comm,nat_join i y x hy hx,Nat.add_comm]
theorem Us (n:Nat) (h:n<9223372036854775808):IntKind.i64.wrap (n:Int)=(n:Int):=by
 have h2:(n:Int)%2 ^ 64=n:=by omega
 simp only[IntKind.wrap,IntKind.bits,IntKind.signed,h2];rw[if_neg];simp;omega
theorem UM (a:Nat) (ha:a<9223372036854775808):(BitVec.ofInt 64 (a:Int)).toNat=a:=by
 rw[BitVec.ofInt_natCast,BitVec.toNat_ofNat];exact Nat.mod_eq_of_lt (by omega)
theorem JY (a b:Nat) (ha:a<9223372036854775808) (hb:b<9223372036854775808):bits .xor .i64 (a:Int) (b:Int)=((a ^^^ b:Nat):Int):=by
 have hx:a ^^^ b<2 ^ 63:=Nat.xor_lt_two_pow (by omega) (by omega);show IntKind.i64.wrap ((BitVec.ofInt 64 (a:Int) ^^^ BitVec.ofInt 64 (b:Int)).toNat:Int)=_;rw[BitVec.toNat_xor,UM a ha,UM b hb];exact Us _ (by omega)
theorem afG (a b c d:Nat) (ha:a<256) (hb:b<256) (hc:c<256) (hd:d<256) :
  bits .or .u32 (bits .or .u32 (bits .or .u32 ((a:Int)%4294967296) ((b:Int)%4294967296*256%4294967296)) ((c:Int)%4294967296*65536%4294967296)) ((d:Int)%4294967296*16777216%4294967296)
   = ((a+256*b+65536*c+16777216*d:Nat):Int):=by
 rw[show ((a:Int)%4294967296)=(a:Int) by omega,show ((b:Int)%4294967296*256%4294967296)=((256*b:Nat):Int) by omega,show ((c:Int)%4294967296*65536%4294967296)=((65536*c:Nat):Int) by omega,show ((d:Int)%4294967296*16777216%4294967296)=((16777216*d:Nat):Int) by omega];rw[MI a (256*b) 8 (by omega) (by omega) (by omega) (by omega),MI (a+256*b) (65536*c) 16 (by omega) (by omega) (by omega) (by omega),MI (a+256*b+65536*c) (16777216*d) 24 (by omega) (by omega) (by omega) (by omega)]
theorem ml (n:Nat) (h:n<9223372036854775808):wrap64 (n:Int)=(n:Int):=by
 unfold wrap64;omega
theorem MJ (x y:Nat) (i:Nat) (hx:x%2 ^ i=0) (hy:y<2 ^ i) (h1:x<4294967296) (h2:y<4294967296):bits .or .u32 (x:Int) (y:Int)=((x+y:Nat):Int):=by
 rw[u32_or_nat x y h1 h2,nat_join i x y hx hy]
theorem afH (a b c d:Nat) (ha:a<256) (hb:b<256) (hc:c<256) (hd:d<256) :
  bits .or .u32 (bits .or .u32 (bits .or .u32 ((a:Int)%4294967296*16777216%4294967296) ((b:Int)%4294967296*65536%4294967296)) ((c:Int)%4294967296*256%4294967296)) ((d:Int)%4294967296)
   = ((16777216*a+65536*b+256*c+d:Nat):Int):=by
 rw[show ((d:Int)%4294967296)=(d:Int) by omega,show ((c:Int)%4294967296*256%4294967296)=((256*c:Nat):Int) by omega,show ((b:Int)%4294967296*65536%4294967296)=((65536*b:Nat):Int) by omega,show ((a:Int)%4294967296*16777216%4294967296)=((16777216*a:Nat):Int) by omega];rw[MJ (16777216*a) (65536*b) 24 (by omega) (by omega) (by omega) (by omega),MJ (16777216*a+65536*b) (256*c) 16 (by omega) (by omega) (by omega) (by omega),MJ (16777216*a+65536*b+256*c) d 8 (by omega) (by omega) (by omega) (by omega)]
theorem xN (s:ByteArray) (w:World) (hs:4<=s.size) :
  Calls Tryz.prog 148 #[.string s] w fun e w'=>e=.returned (.int .u32 (dm s 0))∧∃ m,w'=w.drewN m:=by
 have g0:0<s.size:=by omega
 have g1:1<s.size:=by omega
 have g2:2<s.size:=by omega
 have g3:3<s.size:=by omega
 have h1:(1:Int)<s.size:=by omega
 have h2:(2:Int)<s.size:=by omega
 have h3:(3:Int)<s.size:=by omega
 clear hs;go_enter Tryz.func148,Tryz.ntmps148;go_wp2
 go_quiet (fail)
 go_wp2;go_ret;refine⟨kR ?_,nq,rfl⟩;rw[fW s 0 g0,fW s 1 g1,fW s 2 g2,fW s 3 g3];exact afG _ _ _ _ (gW _ _) (gW _ _) (gW _ _) (gW _ _)
theorem nD (s:ByteArray) (w:World) (hs:4<=s.size) :
  Calls Tryz.prog 168 #[.string s] w fun e w'=>e=.returned (.int .u32 (av s 0))∧∃ m,w'=w.drewN m:=by
 have g0:0<s.size:=by omega
 have g1:1<s.size:=by omega
 have g2:2<s.size:=by omega
 have g3:3<s.size:=by omega
 have h1:(1:Int)<s.size:=by omega
 have h2:(2:Int)<s.size:=by omega
 have h3:(3:Int)<s.size:=by omega
 clear hs;go_enter Tryz.func168,Tryz.ntmps168;go_wp2
 go_quiet (fail)
 go_wp2;go_ret;refine⟨kR ?_,nq,rfl⟩;rw[fW s 0 g0,fW s 1 g1,fW s 2 g2,fW s 3 g3];exact afH _ _ _ _ (gW _ _) (gW _ _) (gW _ _) (gW _ _)
theorem nC (s:ByteArray) (a b i:Nat) (h:a+i<b) (hb:b<=s.size):az (s.extract a b) i=az s (a+i):=by
 have h1:i<(s.extract a b).size:=by simp;omega
 rw[<- fW (s.extract a b) i h1,<- fW s (a+i) (by omega)];congr 1;exact ByteArray.getElem_extract ..
def bJ (x:Cv.ag):Value:=.agg #[.int .i64 x.id,.int .i64 x.ak,.int .i64 x.sd,.int .i64 x.pr,.int .i64 x.q]
theorem acO (x:Cv.ag) (w:World):Calls Tryz.prog 281 #[bJ x] w fun e w'=>e=.returned (.bool (Cv.ok x))∧Below w.heap.size w w':=by
 show Calls Tryz.prog 281 #[.agg #[.int .i64 x.id,.int .i64 x.ak,.int .i64 x.sd,.int .i64 x.pr,.int .i64 x.q]] w _;go_enter Tryz.func281,Tryz.ntmps281
 go_wp2_with (first | (go_at_call 97;refine(DV _ _).mono ?_;rintro e w' ⟨rfl,rfl⟩) | (go_at_call 160;refine(fY _ _ _ _).mono ?_;rintro e w' ⟨rfl,rfl⟩))
 all_goals go_ret
 all_goals
  refine⟨gB ?_,(bRq _ _).alloc (lRq _) _⟩
  go_light
  simp_all[Cv.ok]
theorem ac0 (x:Cv.ag) (B:Nat) (p:Int) (w:World) (hc:w.cell? ⟨B,0,none⟩=some (.int .i64 p)) :
  Calls Tryz.prog 309 #[bJ x,.pointer (some ⟨B,0,none⟩)] w fun e w'=>e=.returned (.bool (Cv.gM p x))∧Below w.heap.size w w':=by
 have hB:B<w.heap.size:=bCq _ _ hc;have hne:B≠w.heap.size:=by omega
 show Calls Tryz.prog 309 #[.agg #[.int .i64 x.id,.int .i64 x.ak,.int .i64 x.sd,.int .i64 x.pr,.int .i64 x.q],.pointer (some ⟨B,0,none⟩)] w _;go_enter Tryz.func309,Tryz.ntmps309;go_wp2
 all_goals go_ret
 all_goals
  refine⟨gB ?_,(bRq _ _).alloc (lRq _) _⟩;simp_all[Cv.gM]
theorem ac2 (x:Cv.ag) (B:Nat) (p:Int) (w:World) (hc:w.cell? ⟨B,0,none⟩=some (.int .i64 p)) :
  Calls Tryz.prog 310 #[bJ x,.pointer (some ⟨B,0,none⟩)] w fun e w'=>e=.returned (.bool (Cv.sB p x))∧Below w.heap.size w w':=by
 have hB:B<w.heap.size:=bCq _ _ hc;have hne:B≠w.heap.size:=by omega
 show Calls Tryz.prog 310 #[.agg #[.int .i64 x.id,.int .i64 x.ak,.int .i64 x.sd,.int .i64 x.pr,.int .i64 x.q],.pointer (some ⟨B,0,none⟩)] w _;go_enter Tryz.func310,Tryz.ntmps310;go_wp2
 all_goals go_ret
 all_goals
  refine⟨gB ?_,(bRq _ _).alloc (lRq _) _⟩;simp_all[Cv.sB]
theorem acW (x:Cv.ag) (B:Nat) (id:Int) (w:World) (hc:w.cell? ⟨B,0,none⟩=some (.int .i64 id)) :
  Calls Tryz.prog 300 #[bJ x,.pointer (some ⟨B,0,none⟩)] w fun e w'=>e=.returned (.bool (x.id==id))∧Below w.heap.size w w':=by
 have hB:B<w.heap.size:=bCq _ _ hc;have hne:B≠w.heap.size:=by omega
 show Calls Tryz.prog 300 #[.agg #[.int .i64 x.id,.int .i64 x.ak,.int .i64 x.sd,.int .i64 x.pr,.int .i64 x.q],.pointer (some ⟨B,0,none⟩)] w _;go_enter Tryz.func300,Tryz.ntmps300;go_wp2
 all_goals go_ret
 all_goals
  refine⟨gB ?_,(bRq _ _).alloc (lRq _) _⟩
  first | rfl | simp_all
theorem RL (side p than:Int) (w:World):Calls Tryz.prog 287 #[.int .i64 side,.int .i64 p,.int .i64 than] w fun e w'=>e=.returned (.bool (Cv.better side p than))∧w'=w:=by
 go_enter Tryz.func287,Tryz.ntmps287;go_wp2
 all_goals go_ret
 all_goals
  refine⟨gB ?_,rfl⟩;simp_all[Cv.better]
def ew (w:World) (b off:Nat) (l:List Cv.ag):Prop :=
 ∀ i,i<l.length->w.cell? ⟨b,off+i*5,none⟩=some (.int .i64 (Cv.nth l i).id)∧w.cell? ⟨b,off+i*5+1,none⟩=some (.int .i64 (Cv.nth l i).ak)∧w.cell? ⟨b,off+i*5+2,none⟩=some (.int .i64 (Cv.nth l i).sd) ∧
  w.cell? ⟨b,off+i*5+3,none⟩=some (.int .i64 (Cv.nth l i).pr)∧w.cell? ⟨b,off+i*5+4,none⟩=some (.int .i64 (Cv.nth l i).q)
theorem ew.later {w w':World} {b off:Nat} {l:List Cv.ag} (h:ew w b off l) (hb:Below w.heap.size w w'):ew w' b off l :=
 fun i hi=>⟨cell_later hb (h i hi).1,cell_later hb (h i hi).2.1,cell_later hb (h i hi).2.2.1,cell_later hb (h i hi).2.2.2.1,cell_later hb (h i hi).2.2.2.2⟩
theorem acV (b off cap B:Nat) (id:Int) (l:List Cv.ag) (w:World) (hn':l.length<=1000) (hl:Hid (ew w b off l)) (hc:w.cell? ⟨B,0,none⟩=some (.int .i64 id)) :
  Calls Tryz.prog 265 #[.slice (some ⟨b,off,none⟩) l.length cap,.func (.func 300) #[] #[.pointer (some ⟨B,0,none⟩)]] w fun e w'=>(∃ r:Int,e=.returned (.int .i64 r)∧decide (0<=r)=Cv.has l id)∧Below w.heap.size w w':=by
 generalize hn:l.length=n at *;have Hn:=hDq hn;clear hn;go_enter Tryz.func265,Tryz.ntmps265;go_wp2
 go_loopw [8] (fun i wr=>∃ k:Nat,k<=n∧i=.int .i64 k∧Cv.has (l.take k) id=false∧Below w.heap.size w wr) (fun i _=>n-(intOf i).toNat)
 case atStart=>exact⟨0,Nat.zero_le _,rfl,rfl,bRq _ _⟩
 case round =>
  obtain⟨k,hk,rfl,hno,hb⟩:=hrel;have HN:=hDq hno;have HB:=hDq hb;clear hno hb;by_cases hlt:k<n
  ·have aK:(k:Int)<n:=by omega
   obtain⟨c0,c1,c2,c3,c4⟩:=(hl.out.later HB.out) k (by rw[Hn.out];exact hlt);have hcB:=cell_later HB.out hc;have HC:=hDq (acW (Cv.nth l k) B id wr hcB);have HT:=hDq (Cv.take_succ (l:=l) (i:=k) (by rw[Hn.out];exact hlt));generalize Cv.nth l k=x at *
   go_wp2_with fail
   refine HC.out.mono ?_;rintro e w2 ⟨rfl,hb2⟩;have HB2:=hDq (HB.out.trans (hb2.mono HB.out.size));clear hb2 c0 c1 c2 c3 c4 hcB HC;by_cases hx:x.id=id
   ·have pZ:(x.id==id)=true:=by simpa using hx
    have Hx:=hDq hx;clear hx;rw[pZ];simp only[];go_wp2;go_ret;refine⟨⟨k,rfl,?_⟩,HB2.out⟩;have:Cv.has l id=true:=by
     have e:l=l.take (k+1)++l.drop (k+1):=(List.take_append_drop _ _).symm;rw[e,HT.out];simp[Cv.has,pZ]
    rw[this];simp
   ·have pZ:(x.id==id)=false:=by simpa using hx
    have Ad:Cv.has (l.take (k+1)) id=false:=by
     have hh:=HN.out;rw[HT.out];unfold Cv.has at hh ⊢;rw[List.any_append,hh];simp[hx]
    have oM:=hDq Ad;clear hx Ad;rw[pZ];simp only[];go_wp2;exact⟨⟨k+1,by omega,by go_num,oM.out,HB2.out⟩,by simp[intOf];omega⟩
  ·have aK:¬ (k:Int)<n:=by omega
   have eU:k=l.length:=by rw[Hn.out];omega
   have hno:=HN.out;rw[eU,List.take_length]at hno;have oM:=hDq hno;clear hno eU;go_wp2;go_ret;exact⟨⟨-1,rfl,by rw[oM.out];rfl⟩,HB.out⟩
theorem abO (cap:Nat) (a:Option Addr) (f:Value) (w:World) :
  Calls Tryz.prog 265 #[.slice a 0 cap,f] w fun e w'=>e=.returned (.int .i64 (-1))∧w'=w:=by
 go_enter Tryz.func265,Tryz.ntmps265;go_wp2;refine wp_loop_rounds 1 ?_;rw[rounds_succ];go_wp2;go_ret;exact⟨rfl,rfl⟩
theorem acX (b off cap B:Nat) (id:Int) (l:List Cv.ag) (w:World) (hn':l.length<=1000) (hl:Hid (ew w b off l)) (hc:w.cell? ⟨B,0,none⟩=some (.int .i64 id)) :
  Calls Tryz.prog 299 #[.slice (some ⟨b,off,none⟩) l.length cap,.func (.func 300) #[] #[.pointer (some ⟨B,0,none⟩)]] w fun e w'=>e=.returned (.bool (Cv.has l id))∧Below w.heap.size w w':=by
 go_enter Tryz.func299,Tryz.ntmps299
 go_wp2_with fail
 refine(acV b off cap B id l w hn' hl hc).mono ?_;rintro e w2 ⟨⟨r,rfl,hr⟩,hb⟩;have uW:=hDq hr;clear hr;simp only[];go_wp2;go_ret;exact⟨gB uW.out,hb⟩
theorem acP (b off cap n:Nat) (id:Int) (l:List Cv.ag) (w:World) (hn:Hid (l.length=n)) (hn':n<=1000) (hl:Hid (ew w b off l)) :
  Calls Tryz.prog 282 #[.slice (some ⟨b,off,none⟩) n cap,.int .i64 id] w fun e w'=>e=.returned (.bool (Cv.has l id))∧Below w.heap.size w w':=by
 have HC:=hDq (acX b off cap w.heap.size id l (w.alloc (.cells #[.int .i64 id] 3)) (by rw[hn.out];exact hn') (hl.out.later ((bRq _ _).alloc (lRq _) _)) (by simp));rw[hn.out]at HC;go_enter Tryz.func282,Tryz.ntmps282
 go_wp2_with fail
 refine HC.out.mono ?_;rintro e w2 ⟨rfl,hb⟩;have HB:=hDq hb;clear hb;simp only[];go_wp2;go_ret;exact⟨rfl,((bRq _ _).alloc (lRq _) _).trans (HB.out.mono (by simp))⟩
theorem ew.take {w:World} {b off:Nat} {l:List Cv.ag} (h:ew w b off l) (k:Nat):ew w b off (l.take k):=by
 intro i hi;rw[lKq]at hi;rw[Cv.acT (by omega)];exact h i (by omega)
theorem Rx:∀ (n N:Nat) {r:Nat},r<4294967296->ah.runN n N r<4294967296
 | 0,_,_,h=>h
 | n+1,N,_,h=>Rx n (N/2) (ah.Ry (ah.Aq h (by have:=Nat.mod_lt N (show 0<2 by decide);omega)))
theorem JX:∀ (n N r:Nat),ah.runN (n+1) N r=ah.bit (ah.runN n N r ^^^ N/2 ^ n%2)
 | 0,N,r=>by simp[ah.runN]
 | n+1,N,r=>by
  show ah.runN (n+1) (N/2) (ah.bit (r ^^^ N%2))=ah.bit (ah.runN n (N/2) (ah.bit (r ^^^ N%2)) ^^^ N/2 ^ (n+1)%2);rw[JX n,Nat.div_div_eq_div_mul,Nat.pow_succ,Nat.mul_comm 2]
theorem Rz (z b j:Nat) (hz:z<4294967296) (hb:b<256):(bits .xor .i64 (z:Int) ((b:Int)/2 ^ j)).tmod 2=(((z ^^^ b/2 ^ j%2)%2:Nat):Int):=by
 have hq:b/2 ^ j<256:=Nat.lt_of_le_of_lt (Nat.div_le_self _ _) hb;have e:((b:Int)/2 ^ j)=((b/2 ^ j:Nat):Int):=by push_cast;rfl
 rw[e,JY z (b/2 ^ j) (by omega) (by omega),Int.tmod_eq_emod_of_nonneg (by omega)];have h2:(z ^^^ b/2 ^ j)%2=(z ^^^ b/2 ^ j%2)%2:=by rw[ah.JE,ah.JE,Nat.mod_mod]
 rw[<- h2];omega
theorem RA (z q:Nat):(z ^^^ q%2)/2=z/2:=by
 rw[ah.QU,Nat.div_eq_of_lt (Nat.mod_lt _ (by decide)),Nat.xor_zero]
theorem acC (z b j:Nat) (hz:z<4294967296) (hb:b<256) (h:((bits .xor .i64 (z:Int) ((b:Int)/2 ^ j)).tmod 2==1)=true):bits .xor .i64 ((z:Int)/2) 3988292384=(ah.bit (z ^^^ b/2 ^ j%2):Int):=by
 rw[Rz z b j hz hb,beq_iff_eq]at h;have h1:(z ^^^ b/2 ^ j%2)%2=1:=by omega
 rw[show ((z:Int)/2)=((z/2:Nat):Int) by omega,show (3988292384:Int)=((3988292384:Nat):Int) from rfl,JY _ _ (by omega) (by omega)];unfold ah.bit;rw[if_pos h1,RA]
theorem acD (z b j:Nat) (hz:z<4294967296) (hb:b<256) (h:((bits .xor .i64 (z:Int) ((b:Int)/2 ^ j)).tmod 2==1)=false):((z:Int)/2)=(ah.bit (z ^^^ b/2 ^ j%2):Int):=by
 rw[Rz z b j hz hb,beq_eq_false_iff_ne]at h;have h1:¬ (z ^^^ b/2 ^ j%2)%2=1:=by omega
 unfold ah.bit;rw[if_neg h1,RA];omega
theorem Qy (s:ByteArray) (w:World) (hs:s.size<=maxLen) :
  Calls Tryz.prog 88 #[.string s] w fun e w'=>e=.returned (.int .i64 (ah.sum s.data.toList))∧w'=w:=by
 unfold maxLen at hs;go_enter Tryz.func88,Tryz.ntmps88;go_wp2
 go_loop [3,4] (fun n i=>∃ k:Nat,k<=s.size∧i=.int .i64 k∧n=.int .i64 (ah.run (s.data.toList.take k) 4294967295)) (fun _ i=>s.size-(intOf i).toNat)
 case atStart=>exact⟨0,Nat.zero_le _,rfl,rfl⟩
 case round =>
  obtain⟨k,hk,rfl,rfl⟩:=hrel;have hr:ah.run (s.data.toList.take k) 4294967295<4294967296:=ah.D8 _ (by decide);by_cases hlt:k<s.size
  ·have HS:Hid (ah.run (s.data.toList.take (k+1)) 4294967295=ah.byte (ah.run (s.data.toList.take k) 4294967295) s[k].toNat):=by
    rw[p6 s k hlt];exact ah.RB _ _ _
   have hb:s[k].toNat<256:=s[k].toNat_lt;generalize hg:ah.run (s.data.toList.take k) 4294967295=r at *;have acE:=hDq hg;clear hg;go_wp2
   go_loop [3,5] (fun n i=>∃ j:Nat,j<=8∧i=.int .i64 j∧n=.int .i64 (ah.runN j s[k].toNat r)) (fun _ i=>8-(intOf i).toNat)
   case atStart=>exact⟨0,Nat.zero_le _,rfl,rfl⟩
   case round =>
    obtain⟨j,hj,rfl,rfl⟩:=hrel;have oQ:ah.runN j s[k].toNat r<4294967296:=Rx j _ hr;generalize hz:ah.runN j s[k].toNat r=z at *;have Ar:=hDq hz;clear hz;by_cases acF:j<8
    ·go_wp2
     ·exact⟨⟨j+1,by omega,by go_num,qJ (by rw[JX,Ar.out];exact acC z _ j oQ hb ‹_›)⟩,by simp[intOf];omega⟩
     ·exact⟨⟨j+1,by omega,by go_num,qJ (by rw[JX,Ar.out];exact acD z _ j oQ hb ‹_›)⟩,by simp[intOf];omega⟩
    ·go_wp2
     have i7:j=8:=by omega
     exact⟨⟨k+1,by omega,by go_num,qJ (by rw[HS.out,ah.byte,<- ah.QV 8 _ _ hb,<- Ar.out,i7])⟩,by simp[intOf];omega⟩
  ·go_wp2
   go_ret;exact⟨kR (by rw[show (4294967295:Int)=((4294967295:Nat):Int) from rfl,JY _ _ (by omega) (by decide),List.take_of_length_le (by simp;omega)];rfl),rfl⟩
theorem one_byte (x:Int) (w:World):(convert 115 9 (.slice (some ⟨w.heap.size,0,none⟩) 1 1)).run Tryz.prog (w.alloc (.cells #[.int .u8 x] 5))=.ok (.string (strOfNums [x])) (w.alloc (.cells #[.int .u8 x] 5)) :=
 run_convert_bytes_arg (w.alloc (.cells #[.int .u8 x] 5)) 115 5 Tryz.underlying115 Tryz.underlying5 w.heap.size 0 1 1 [x] rfl (fun i hi=>by
  obtain rfl:i=0:=by omega
  simp) 9 Tryz.underlying9
theorem my (n:Int) (w:World):Calls Tryz.prog 47 #[.int .i64 n] w fun e w'=>e=.returned (.string (strOfNums [n%256]))∧Below w.heap.size w w':=by
 have hcv:=one_byte;go_enter Tryz.func47,Tryz.ntmps47;go_wp2;go_ret;exact⟨rfl,(bRq _ _).alloc (lRq _) _⟩
theorem nums_append (a b:List Int):strOfNums a++strOfNums b=strOfNums (a++b):=by
 apply ByteArray.ext;simp[strOfNums]
theorem xH {a b:ByteArray} (h:a=b):Ending.returned (.string a)=.returned (.string b):=by rw[h]
theorem QW {w w1 w2 w3 w4:World} (h1:Below w.heap.size w w1) (h2:Below w1.heap.size w1 w2) (h3:Below w2.heap.size w2 w3) (h4:Below w3.heap.size w3 w4):Below w.heap.size w w4 :=
 ((h1.trans (h2.mono h1.size)).trans (h3.mono (lTq h1.size h2.size))).trans (h4.mono (lTq h1.size (lTq h2.size h3.size)))
theorem abV (n:Nat) (w:World) (abW:n<4294967296):Calls Tryz.prog 94 #[.int .i64 n] w fun e w'=>e=.returned (.string (strOfNums (ah.high n)))∧Below w.heap.size w w':=by
 go_enter Tryz.func94,Tryz.ntmps94
 go_wp2_with fail
 refine(my _ _).mono ?_;rintro e w1 ⟨rfl,hb1⟩
 go_wp2_with fail
 refine(my _ _).mono ?_;rintro e w2 ⟨rfl,hb2⟩
 go_wp2_with fail
 refine(my _ _).mono ?_;rintro e w3 ⟨rfl,hb3⟩
 go_wp2_with fail
 refine(my _ _).mono ?_;rintro e w4 ⟨rfl,hb4⟩;go_wp2;go_ret;exact⟨xH (by rw[nums_append,nums_append,nums_append];rfl),QW hb1 hb2 hb3 hb4⟩
theorem Qx (n:Nat) (w:World) (abW:n<4294967296):Calls Tryz.prog 87 #[.int .i64 n] w fun e w'=>e=.returned (.string (strOfNums (ah.low n)))∧Below w.heap.size w w':=by
 go_enter Tryz.func87,Tryz.ntmps87
 go_wp2_with fail
 refine(my _ _).mono ?_;rintro e w1 ⟨rfl,hb1⟩
 go_wp2_with fail
 refine(my _ _).mono ?_;rintro e w2 ⟨rfl,hb2⟩
 go_wp2_with fail
 refine(my _ _).mono ?_;rintro e w3 ⟨rfl,hb3⟩
 go_wp2_with fail
 refine(my _ _).mono ?_;rintro e w4 ⟨rfl,hb4⟩;go_wp2;go_ret;refine⟨xH ?_,QW hb1 hb2 hb3 hb4⟩;rw[nums_append,nums_append,nums_append];simp[ah.low]
def dD (l:List UInt8):Nat:=l.foldl (fun n b=>256*n+b.toNat) 0
theorem abX (l:List UInt8) (b:UInt8):dD (l++[b])=256*dD l+b.toNat:=by simp[dD,List.foldl_append]
theorem QX:∀ (l:List UInt8) (n m:Nat),n<256 ^ m->l.foldl (fun n b=>256*n+b.toNat) n<256 ^ (m+l.length)
 | [],n,m,h=>by simpa using h
 | b::l,n,m,h=>by
  have hb:=b.toNat_lt
  have:=QX l (256*n+b.toNat) (m+1) (by rw[Nat.pow_succ];omega)
  rw[lCq,show m+(l.length+1)=m+1+l.length by omega];exact this
theorem abY (l:List UInt8):dD l<256 ^ l.length:=by
 have:=QX l 0 0 (by decide)
 simpa [dD] using this
theorem mh (s:ByteArray) (w:World) (hs:s.size<=4):Calls Tryz.prog 89 #[.string s] w fun e w'=>e=.returned (.int .i64 (dD s.data.toList))∧w'=w:=by
 go_enter Tryz.func89,Tryz.ntmps89;go_wp2
 go_loop [3,4] (fun n i=>∃ k:Nat,k<=s.size∧i=.int .i64 k∧n=.int .i64 (dD (s.data.toList.take k))) (fun _ i=>s.size-(intOf i).toNat)
 case atStart=>exact⟨0,Nat.zero_le _,rfl,rfl⟩
 case round =>
  obtain⟨k,hk,rfl,rfl⟩:=hrel;by_cases hlt:k<s.size
  ·have HS:Hid (dD (s.data.toList.take (k+1))=256*dD (s.data.toList.take k)+s[k].toNat):=by
    rw[p6 s k hlt];exact abX _ _
   have hb:s[k].toNat<256:=s[k].toNat_lt;have hr:dD (s.data.toList.take k)<4294967296:=by
    refine Nat.lt_of_lt_of_le (abY _) ?_;have:(s.data.toList.take k).length<=4:=by simp;omega
    exact Nat.pow_le_pow_right (show 0<256 by decide) this
   generalize dD (s.data.toList.take k)=r at *;go_wp2;exact⟨⟨k+1,by omega,by go_num,qJ (by rw[HS.out];omega)⟩,by simp[intOf];omega⟩
  ·go_wp2
   go_ret;exact⟨kR (by rw[List.take_of_length_le (by simp;omega)]),rfl⟩
end Go.Proofs.YtjolccidheflpaaGreatDoor
