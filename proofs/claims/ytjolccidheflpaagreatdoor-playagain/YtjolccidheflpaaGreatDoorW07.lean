/- The readers of numbers in bytes: four.Low and four.High, at every text of at least four bytes. -/
import Derived.Test.YtjolccidheflpaaGreatDoorW03
import Derived.Deep.QuietTactic
import Derived.BigQuiet
import Derived.Test.YtjolccidheflpaaGreatDoorW00
namespace Go.Proofs.YtjolccidheflpaaGreatDoor
set_option maxHeartbeats 8000000
set_option maxRecDepth 100000
open Go.RowKit
def aN (s:ByteArray) (i:Nat):Nat:=(s.data.toList.getD i 0).toNat
theorem kV (s:ByteArray) (i:Nat):aN s i<256:=by unfold aN;exact UInt8.toNat_lt _
theorem kx (s:ByteArray) (i:Nat) (h:i<s.size):(s[i]).toNat=aN s i:=by
 have h':i<s.data.toList.length:=by simpa using h
 unfold aN;rw[gE,List.getElem?_eq_getElem h'];rfl
def eJ (s:ByteArray) (i:Nat):Nat:=aN s i+256*aN s (i+1)+65536*aN s (i+2)+16777216*aN s (i+3)
def aA (s:ByteArray) (i:Nat):Nat:=16777216*aN s i+65536*aN s (i+1)+256*aN s (i+2)+aN s (i+3)
theorem Mk (x y:Nat) (i:Nat) (hx:x<2 ^ i) (hy:y%2 ^ i=0) (h1:x<4294967296) (h2:y<4294967296):bits .or .u32 (x:Int) (y:Int)=((x+y:Nat):Int):=by
 rw[u32_or_nat x y h1 h2,Nat.or_comm,nat_join i y x hy hx,Nat.add_comm]
theorem afv (a b c d:Nat) (ha:a<256) (hb:b<256) (hc:c<256) (hd:d<256) :
  bits .or .u32 (bits .or .u32 (bits .or .u32 ((a:Int)%4294967296) ((b:Int)%4294967296*256%4294967296)) ((c:Int)%4294967296*65536%4294967296)) ((d:Int)%4294967296*16777216%4294967296)
   = ((a+256*b+65536*c+16777216*d:Nat):Int):=by
 rw[show ((a:Int)%4294967296)=(a:Int) by omega,show ((b:Int)%4294967296*256%4294967296)=((256*b:Nat):Int) by omega,show ((c:Int)%4294967296*65536%4294967296)=((65536*c:Nat):Int) by omega,show ((d:Int)%4294967296*16777216%4294967296)=((16777216*d:Nat):Int) by omega];rw[Mk a (256*b) 8 (by omega) (by omega) (by omega) (by omega),Mk (a+256*b) (65536*c) 16 (by omega) (by omega) (by omega) (by omega),Mk (a+256*b+65536*c) (16777216*d) 24 (by omega) (by omega) (by omega) (by omega)]
theorem wa (n:Nat) (h:n<9223372036854775808):wrap64 (n:Int)=(n:Int):=by
 unfold wrap64;omega
theorem Ml (x y:Nat) (i:Nat) (hx:x%2 ^ i=0) (hy:y<2 ^ i) (h1:x<4294967296) (h2:y<4294967296):bits .or .u32 (x:Int) (y:Int)=((x+y:Nat):Int):=by
 rw[u32_or_nat x y h1 h2,nat_join i x y hx hy]
theorem afw (a b c d:Nat) (ha:a<256) (hb:b<256) (hc:c<256) (hd:d<256) :
  bits .or .u32 (bits .or .u32 (bits .or .u32 ((a:Int)%4294967296*16777216%4294967296) ((b:Int)%4294967296*65536%4294967296)) ((c:Int)%4294967296*256%4294967296)) ((d:Int)%4294967296)
   = ((16777216*a+65536*b+256*c+d:Nat):Int):=by
 rw[show ((d:Int)%4294967296)=(d:Int) by omega,show ((c:Int)%4294967296*256%4294967296)=((256*c:Nat):Int) by omega,show ((b:Int)%4294967296*65536%4294967296)=((65536*b:Nat):Int) by omega,show ((a:Int)%4294967296*16777216%4294967296)=((16777216*a:Nat):Int) by omega];rw[Ml (16777216*a) (65536*b) 24 (by omega) (by omega) (by omega) (by omega),Ml (16777216*a+65536*b) (256*c) 16 (by omega) (by omega) (by omega) (by omega),Ml (16777216*a+65536*b+256*c) d 8 (by omega) (by omega) (by omega) (by omega)]
theorem yi (s:ByteArray) (w:World) (hs:4<=s.size) :
  Calls Tryz.prog 148 #[.string s] w fun e w'=>e=.returned (.int .u32 (eJ s 0))/\∃ m,w'=w.drewN m:=by
 have g0:0<s.size:=by omega
 have g1:1<s.size:=by omega
 have g2:2<s.size:=by omega
 have g3:3<s.size:=by omega
 have h1:(1:Int)<s.size:=by omega
 have h2:(2:Int)<s.size:=by omega
 have h3:(3:Int)<s.size:=by omega
 clear hs;go_enter Tryz.func148,Tryz.ntmps148;go_wp2
 go_quiet (fail)
 go_wp2;go_ret;refine⟨vL ?_,nq,rfl⟩;rw[kx s 0 g0,kx s 1 g1,kx s 2 g2,kx s 3 g3];exact afv _ _ _ _ (kV _ _) (kV _ _) (kV _ _) (kV _ _)
theorem oq (s:ByteArray) (w:World) (hs:4<=s.size) :
  Calls Tryz.prog 168 #[.string s] w fun e w'=>e=.returned (.int .u32 (aA s 0))/\∃ m,w'=w.drewN m:=by
 have g0:0<s.size:=by omega
 have g1:1<s.size:=by omega
 have g2:2<s.size:=by omega
 have g3:3<s.size:=by omega
 have h1:(1:Int)<s.size:=by omega
 have h2:(2:Int)<s.size:=by omega
 have h3:(3:Int)<s.size:=by omega
 clear hs;go_enter Tryz.func168,Tryz.ntmps168;go_wp2
 go_quiet (fail)
 go_wp2;go_ret;refine⟨vL ?_,nq,rfl⟩;rw[kx s 0 g0,kx s 1 g1,kx s 2 g2,kx s 3 g3];exact afw _ _ _ _ (kV _ _) (kV _ _) (kV _ _) (kV _ _)
theorem oo (s:ByteArray) (a b i:Nat) (h:a+i<b) (hb:b<=s.size):aN (s.extract a b) i=aN s (a+i):=by
 have h1:i<(s.extract a b).size:=by simp;omega
 rw[<- kx (s.extract a b) i h1,<- kx s (a+i) (by omega)];congr 1;exact ByteArray.getElem_extract ..
def bU (x:Cv.ag):Value:=.agg #[Qa x.id,Qa x.ak,Qa x.sd,Qa x.pr,Qa x.q]
theorem acs (x:Cv.ag) (w:World):Calls Tryz.prog 281 #[bU x] w fun e w'=>e=.returned (.bool (Cv.ok x))/\Qd w w':=by
 show Calls Tryz.prog 281 #[.agg #[Qa x.id,Qa x.ak,Qa x.sd,Qa x.pr,Qa x.q]] w _;go_enter Tryz.func281,Tryz.ntmps281
 go_wp2_with (first | (go_at_call 97;refine(vU _ _).mono ?_;rintro e w' ⟨rfl,rfl⟩) | (go_at_call 160;refine(gH _ _ _ _).mono ?_;rintro e w' ⟨rfl,rfl⟩))
 all_goals go_ret
 all_goals
  refine⟨iy ?_,(bRq _ _).alloc (lRq _) _⟩
  go_light
  simp_all[Cv.ok]
theorem acF (x:Cv.ag) (B:Nat) (p:Int) (w:World) (hc:w.cell? (Qb B 0)=some (Qa p)) :
  Calls Tryz.prog 309 #[bU x,Qc B] w fun e w'=>e=.returned (.bool (Cv.h_ p x))/\Qd w w':=by
 have hB:B<w.heap.size:=bCq _ _ hc;have hne:B≠w.heap.size:=by omega
 show Calls Tryz.prog 309 #[.agg #[Qa x.id,Qa x.ak,Qa x.sd,Qa x.pr,Qa x.q],Qc B] w _;go_enter Tryz.func309,Tryz.ntmps309;go_wp2
 all_goals go_ret
 all_goals
  refine⟨iy ?_,(bRq _ _).alloc (lRq _) _⟩;simp_all[Cv.h_]
theorem acH (x:Cv.ag) (B:Nat) (p:Int) (w:World) (hc:w.cell? (Qb B 0)=some (Qa p)) :
  Calls Tryz.prog 310 #[bU x,Qc B] w fun e w'=>e=.returned (.bool (Cv.sB p x))/\Qd w w':=by
 have hB:B<w.heap.size:=bCq _ _ hc;have hne:B≠w.heap.size:=by omega
 show Calls Tryz.prog 310 #[.agg #[Qa x.id,Qa x.ak,Qa x.sd,Qa x.pr,Qa x.q],Qc B] w _;go_enter Tryz.func310,Tryz.ntmps310;go_wp2
 all_goals go_ret
 all_goals
  refine⟨iy ?_,(bRq _ _).alloc (lRq _) _⟩;simp_all[Cv.sB]
theorem acB (x:Cv.ag) (B:Nat) (id:Int) (w:World) (hc:w.cell? (Qb B 0)=some (Qa id)) :
  Calls Tryz.prog 300 #[bU x,Qc B] w fun e w'=>e=.returned (.bool (x.id==id))/\Qd w w':=by
 have hB:B<w.heap.size:=bCq _ _ hc;have hne:B≠w.heap.size:=by omega
 show Calls Tryz.prog 300 #[.agg #[Qa x.id,Qa x.ak,Qa x.sd,Qa x.pr,Qa x.q],Qc B] w _;go_enter Tryz.func300,Tryz.ntmps300;go_wp2
 all_goals go_ret
 all_goals
  refine⟨iy ?_,(bRq _ _).alloc (lRq _) _⟩
  first | rfl | simp_all
theorem Q6 (side p than:Int) (w:World):Calls Tryz.prog 287 #[Qa side,Qa p,Qa than] w fun e w'=>e=.returned (.bool (Cv.better side p than))/\w'=w:=by
 go_enter Tryz.func287,Tryz.ntmps287;go_wp2
 all_goals go_ret
 all_goals
  refine⟨iy ?_,rfl⟩;simp_all[Cv.better]
def dR (w:World) (b off:Nat) (l:List Cv.ag):Prop :=
 ∀ i,i<l.length->w.cell? ⟨b,off+i*5,none⟩=some (Qa (Cv.nth l i).id)/\w.cell? ⟨b,off+i*5+1,none⟩=some (Qa (Cv.nth l i).ak)/\w.cell? ⟨b,off+i*5+2,none⟩=some (Qa (Cv.nth l i).sd) /\
  w.cell? ⟨b,off+i*5+3,none⟩=some (Qa (Cv.nth l i).pr)/\w.cell? ⟨b,off+i*5+4,none⟩=some (Qa (Cv.nth l i).q)
theorem dR.later {w w':World} {b off:Nat} {l:List Cv.ag} (h:dR w b off l) (hb:Qd w w'):dR w' b off l :=
 fun i hi=>⟨cell_later hb (h i hi).1,cell_later hb (h i hi).2.1,cell_later hb (h i hi).2.2.1,cell_later hb (h i hi).2.2.2.1,cell_later hb (h i hi).2.2.2.2⟩
theorem acA (b off cap B:Nat) (id:Int) (l:List Cv.ag) (w:World) (hn':l.length<=1000) (hl:Hid (dR w b off l)) (hc:w.cell? (Qb B 0)=some (Qa id)) :
  Calls Tryz.prog 265 #[.slice (some (Qb b off)) l.length cap,.func (.func 300) #[] #[Qc B]] w fun e w'=>(∃ r:Int,e=.returned (Qa r)/\decide (0<=r)=Cv.has l id)/\Qd w w':=by
 generalize hn:l.length=n at *;have Hn:=hDq hn;clear hn;go_enter Tryz.func265,Tryz.ntmps265;go_wp2
 go_loopw [8] (fun i wr=>∃ k:Nat,k<=n/\i=Qa k/\Cv.has (l.take k) id=false/\Qd w wr) (fun i _=>n-(intOf i).toNat)
 case atStart=>exact⟨0,Nat.zero_le _,rfl,rfl,bRq _ _⟩
 case round =>
  obtain⟨k,hk,rfl,hno,hb⟩:=hrel;have HN:=hDq hno;have HB:=hDq hb;clear hno hb;by_cases hlt:k<n
  .have aX:(k:Int)<n:=by omega
   obtain⟨c0,c1,c2,c3,c4⟩:=(hl.out.later HB.out) k (by rw[Hn.out];exact hlt);have hcB:=cell_later HB.out hc;have HC:=hDq (acB (Cv.nth l k) B id wr hcB);have HT:=hDq (Cv.take_succ (l:=l) (i:=k) (by rw[Hn.out];exact hlt));generalize Cv.nth l k=x at *
   go_wp2_with fail
   refine HC.out.mono ?_;rintro e w2 ⟨rfl,hb2⟩;have HB2:=hDq (HB.out.trans (hb2.mono HB.out.size));clear hb2 c0 c1 c2 c3 c4 hcB HC;by_cases hx:x.id=id
   .have mb:(x.id==id)=true:=by simpa using hx
    have Hx:=hDq hx;clear hx;rw[mb];simp only[];go_wp2;go_ret;refine⟨⟨k,rfl,?_⟩,HB2.out⟩;have:Cv.has l id=true:=by
     have e:l=l.take (k+1)++l.drop (k+1):=(List.take_append_drop _ _).symm;rw[e,HT.out];simp[Cv.has,mb]
    rw[this];simp
   .have mb:(x.id==id)=false:=by simpa using hx
    have z7:Cv.has (l.take (k+1)) id=false:=by
     have hh:=HN.out;rw[HT.out];unfold Cv.has at hh ⊢;rw[List.any_append,hh];simp[hx]
    have py:=hDq z7;clear hx z7;rw[mb];simp only[];go_wp2;exact⟨⟨k+1,by omega,by go_num,py.out,HB2.out⟩,by simp[intOf];omega⟩
  .have aX:¬ (k:Int)<n:=by omega
   have dW:k=l.length:=by rw[Hn.out];omega
   have hno:=HN.out;rw[dW,List.take_length]at hno;have py:=hDq hno;clear hno dW;go_wp2;go_ret;exact⟨⟨-1,rfl,by rw[py.out];rfl⟩,HB.out⟩
theorem abB (cap:Nat) (a:Option Addr) (f:Value) (w:World) :
  Calls Tryz.prog 265 #[.slice a 0 cap,f] w fun e w'=>e=.returned (Qa (-1))/\w'=w:=by
 go_enter Tryz.func265,Tryz.ntmps265;go_wp2;refine wp_loop_rounds 1 ?_;rw[rounds_succ];go_wp2;go_ret;exact⟨rfl,rfl⟩
theorem acC (b off cap B:Nat) (id:Int) (l:List Cv.ag) (w:World) (hn':l.length<=1000) (hl:Hid (dR w b off l)) (hc:w.cell? (Qb B 0)=some (Qa id)) :
  Calls Tryz.prog 299 #[.slice (some (Qb b off)) l.length cap,.func (.func 300) #[] #[Qc B]] w fun e w'=>e=.returned (.bool (Cv.has l id))/\Qd w w':=by
 go_enter Tryz.func299,Tryz.ntmps299
 go_wp2_with fail
 refine(acA b off cap B id l w hn' hl hc).mono ?_;rintro e w2 ⟨⟨r,rfl,hr⟩,hb⟩;have vK:=hDq hr;clear hr;simp only[];go_wp2;go_ret;exact⟨iy vK.out,hb⟩
theorem acu (b off cap n:Nat) (id:Int) (l:List Cv.ag) (w:World) (hn:Hid (l.length=n)) (hn':n<=1000) (hl:Hid (dR w b off l)) :
  Calls Tryz.prog 282 #[.slice (some (Qb b off)) n cap,Qa id] w fun e w'=>e=.returned (.bool (Cv.has l id))/\Qd w w':=by
 have HC:=hDq (acC b off cap w.heap.size id l (w.alloc (.cells #[Qa id] 3)) (by rw[hn.out];exact hn') (hl.out.later ((bRq _ _).alloc (lRq _) _)) (by simp));rw[hn.out]at HC;go_enter Tryz.func282,Tryz.ntmps282
 go_wp2_with fail
 refine HC.out.mono ?_;rintro e w2 ⟨rfl,hb⟩;have HB:=hDq hb;clear hb;simp only[];go_wp2;go_ret;exact⟨rfl,((bRq _ _).alloc (lRq _) _).trans (HB.out.mono (by simp))⟩
theorem dR.take {w:World} {b off:Nat} {l:List Cv.ag} (h:dR w b off l) (k:Nat):dR w b off (l.take k):=by
 intro i hi;rw[lKq]at hi;rw[Cv.QX (by omega)];exact h i (by omega)
theorem dR.drop {w:World} {b off:Nat} {l:List Cv.ag} (h:dR w b off l) (k:Nat):dR w b (off+k*5) (l.drop k):=by
 intro i hi;rw[List.length_drop]at hi;rw[Cv.QW]
 have:=h (k+i) (by omega)
 rw[show off+(k+i)*5=off+k*5+i*5 by omega]at this;exact this
end Go.Proofs.YtjolccidheflpaaGreatDoor
