/- What each call of package wire's checks does, for every request: the walks of within, isItem, isKind, isBounded, isShaped and Check. -/
import Derived.Test.YtjolccidheflpaaGreatDoorProg
import GoSem.PinnedTables
import GoSem.Claim
import GoSem.ClaimJoined
import GoSem.ClaimMapViews
import Derived.JoinedTies
import Derived.KernelRfl
import Derived.Test.YtjolccidheflpaaGreatDoorW00
import Derived.WalkKit
import Derived.WalkSpells
import Derived.WalkLawsBesides
import Derived.Laws.BitsAllLaws
import Derived.Deep.Light
import Derived.Lib.AppendStr
import Derived.Lib.FrozenHead
import Derived.Laws.IdiomStrings
import Derived.Maps.AppendAt
namespace Go.Proofs.YtjolccidheflpaaGreatDoor
set_option maxHeartbeats 8000000
set_option maxRecDepth 100000
section
open Go.RowKit
theorem iy {a b:Bool} (h:a=b):Ending.returned (.bool a)=.returned (.bool b):=by rw[h]
theorem vL {k:IntKind} {a b:Int} (h:a=b):Ending.returned (.int k a)=.returned (.int k b):=by rw[h]
theorem gH (x lo hi:Int) (w:World) :
  Calls Tryz.prog 160 #[Qa x,Qa lo,Qa hi] w fun e w'=>e=.returned (.bool (ah.aG x lo hi))/\w'=w:=by
 by_cases h:lo<=x
 .go_enter Tryz.func160,Tryz.ntmps160
  go_wp2;go_ret;exact⟨iy (by simp[ah.aG,h]),rfl⟩
 .have h':decide (lo<=x)=false:=by simpa using h
  go_enter Tryz.func160,Tryz.ntmps160;go_wp2;go_ret;exact⟨iy (by simp[ah.aG,h']),rfl⟩
theorem vU (n:Int) (w:World):Calls Tryz.prog 97 #[Qa n] w fun e w'=>e=.returned (.bool (ah.aG n 0 5))/\w'=w:=by
 go_enter Tryz.func97,Tryz.ntmps97
 go_wp2_with fail
 refine(gH n 0 5 w).mono ?_;rintro e w2 ⟨rfl,rfl⟩;simp only[];go_wp2;go_ret;exact⟨rfl,rfl⟩
theorem abG (n:Int) (w:World) :
  Calls Tryz.prog 236 #[Qa n] w fun e w'=>e=.returned (.bool (ah.aG n 0 2))/\w'=w:=by
 go_enter Tryz.func236,Tryz.ntmps236
 go_wp2_with (go_at_call 160;refine(gH _ _ _ _).mono ?_;rintro e w' ⟨rfl,rfl⟩)
 go_ret;exact⟨rfl,rfl⟩
theorem DT (k:Int) (w:World) :
  Calls Tryz.prog 201 #[.int .u8 k] w fun e w'=>e=.returned (.bool (ah.mg k))/\w'=w:=by
 go_enter Tryz.func201,Tryz.ntmps201;go_wp2
 all_goals go_ret
 all_goals simp[ah.mg, *]
theorem Qu (k c sq it sd pr q id:Int) (w:World) :
  Calls Tryz.prog 203 #[.agg #[.int .u8 k,Qa c,Qa sq,Qa it,Qa sd,Qa pr,Qa q,Qa id]] w fun e w'=>e=.returned (.bool (ah.m_ k it sd pr q id))/\Qd w w':=by
 go_enter Tryz.func203,Tryz.ntmps203;go_wp2
 all_goals go_ret
 all_goals
  refine⟨iy ?_,(bRq _ _).alloc (lRq _) _⟩
  go_light
  simp[ah.m_, *]
theorem Je (k c sq it sd pr q id:Int) (w:World) :
  Calls Tryz.prog 202 #[.agg #[.int .u8 k,Qa c,Qa sq,Qa it,Qa sd,Qa pr,Qa q,Qa id]] w fun e w'=>e=.returned (.bool (ah.ku k c sq it sd pr q id))/\Qd w w':=by
 go_enter Tryz.func202,Tryz.ntmps202
 go_wp2_with (first | (go_at_call 97;refine(vU _ _).mono ?_;rintro e w' ⟨rfl,rfl⟩) | (go_at_call 160;refine(gH _ _ _ _).mono ?_;rintro e w' ⟨rfl,rfl⟩) | (go_at_call 236;refine(abG _ _).mono ?_;rintro e w' ⟨rfl,rfl⟩))
 all_goals go_ret
 all_goals
  refine⟨iy ?_,(bRq _ _).alloc (lRq _) _⟩
  go_light
  simp_all[ah.ku]
theorem Aa {W w1:World} (hb:Qd W w1):(∀ b o,b<W.heap.size->w1.cell? (Qb b o)=W.cell? (Qb b o))/\(∀ b o,b<W.heap.size->w1.frozen? (Qb b o)=W.frozen? (Qb b o)) :=
 ⟨fun b o h=>hb.cell (p:=(Qb b o)) h,fun b o h=>hb.frozen (p:=(Qb b o)) h⟩
theorem Jf (k c sq it sd pr q id:Int) (v3:Value) (w:World) (hz:4<w.heap.size) (h3:w.cell? (Qb 4 0)=some v3) (hk:ah.mg k=false) :
  Calls Tryz.prog 151 #[.agg #[.int .u8 k,Qa c,Qa sq,Qa it,Qa sd,Qa pr,Qa q,Qa id]] w fun e w'=>e=.returned v3/\Qd w w':=by
 go_enter Tryz.func151,Tryz.ntmps151
 go_wp2_with fail
 refine(DT _ _).mono ?_;rintro e w1 ⟨rfl,rfl⟩;go_wp2;go_ret;exact⟨rfl,(bRq _ _).alloc (lRq _) _⟩
theorem Jg (k c sq it sd pr q id:Int) (v1:Value) (w:World) (hz:1<w.heap.size) (h3:w.cell? (Qb 1 0)=some v1) (hk:ah.mg k=true) (hbd:ah.ku k c sq it sd pr q id=false) :
  Calls Tryz.prog 151 #[.agg #[.int .u8 k,Qa c,Qa sq,Qa it,Qa sd,Qa pr,Qa q,Qa id]] w fun e w'=>e=.returned v1/\Qd w w':=by
 go_enter Tryz.func151,Tryz.ntmps151
 go_wp2_with fail
 refine(DT _ _).mono ?_;rintro e w1 ⟨rfl,rfl⟩
 go_wp2_with fail
 refine(Je _ _ _ _ _ _ _ _ _).mono ?_;rintro e w1 ⟨rfl,hb1⟩;obtain⟨hc1,DU⟩:=Aa hb1;have hz1:w.heap.size<w1.heap.size:=by have:=hb1.size;simp at this;omega
 have pz:Qd w w1:=((bRq _ _).alloc (lRq _) _).trans (hb1.mono (by simp));have hg1:w1.cell? (Qb 1 0)=some v1:=by rw[pz.cell (p:=(Qb 1 0)) hz];exact h3
 go_wp2;go_ret;exact⟨rfl,((bRq _ _).alloc (lRq _) _).trans (hb1.mono (by simp))⟩
theorem Jh (k c sq it sd pr q id:Int) (v2:Value) (w:World) (hz:3<w.heap.size) (h3:w.cell? (Qb 3 0)=some v2) (hk:ah.mg k=true) (hbd:ah.ku k c sq it sd pr q id=true) (hsh:ah.m_ k it sd pr q id=false) :
  Calls Tryz.prog 151 #[.agg #[.int .u8 k,Qa c,Qa sq,Qa it,Qa sd,Qa pr,Qa q,Qa id]] w fun e w'=>e=.returned v2/\Qd w w':=by
 go_enter Tryz.func151,Tryz.ntmps151
 go_wp2_with fail
 refine(DT _ _).mono ?_;rintro e w1 ⟨rfl,rfl⟩
 go_wp2_with fail
 refine(Je _ _ _ _ _ _ _ _ _).mono ?_;rintro e w1 ⟨rfl,hb1⟩;obtain⟨hc1,DU⟩:=Aa hb1;have hz1:w.heap.size<w1.heap.size:=by have:=hb1.size;simp at this;omega
 have pz:Qd w w1:=((bRq _ _).alloc (lRq _) _).trans (hb1.mono (by simp));have hg1:w1.cell? (Qb 3 0)=some v2:=by rw[pz.cell (p:=(Qb 3 0)) hz];exact h3
 go_wp2_with fail
 refine(Qu _ _ _ _ _ _ _ _ _).mono ?_;rintro e w2 ⟨rfl,hb2⟩;obtain⟨hc2,hf2⟩:=Aa hb2;have hg2:w2.cell? (Qb 3 0)=some v2:=by rw[hb2.cell (p:=(Qb 3 0)) (by simp;omega)];exact hg1
 go_wp2;go_ret;exact⟨rfl,(((bRq _ _).alloc (lRq _) _).trans (hb1.mono (by simp))).trans (hb2.mono (by omega))⟩
theorem DV (k c sq it sd pr q id:Int) (w:World) (hk:ah.mg k=true) (hbd:ah.ku k c sq it sd pr q id=true) (hsh:ah.m_ k it sd pr q id=true) :
  Calls Tryz.prog 151 #[.agg #[.int .u8 k,Qa c,Qa sq,Qa it,Qa sd,Qa pr,Qa q,Qa id]] w fun e w'=>e=.returned .nilIface/\Qd w w':=by
 go_enter Tryz.func151,Tryz.ntmps151
 go_wp2_with fail
 refine(DT _ _).mono ?_;rintro e w1 ⟨rfl,rfl⟩
 go_wp2_with fail
 refine(Je _ _ _ _ _ _ _ _ _).mono ?_;rintro e w1 ⟨rfl,hb1⟩;obtain⟨hc1,DU⟩:=Aa hb1;have hz1:w.heap.size<w1.heap.size:=by have:=hb1.size;simp at this;omega
 go_wp2_with fail
 refine(Qu _ _ _ _ _ _ _ _ _).mono ?_;rintro e w2 ⟨rfl,hb2⟩;obtain⟨hc2,hf2⟩:=Aa hb2;go_wp2;go_ret;exact⟨rfl,(((bRq _ _).alloc (lRq _) _).trans (hb1.mono (by simp))).trans (hb2.mono (by omega))⟩
theorem hDq {p:Prop} (h:p):Hid p:=h
theorem wb (s:ByteArray) (k:Nat) (h:k<s.size):s.data.toList.take (k+1)=s.data.toList.take k++[s[k]]:=by
 rw[List.take_succ_eq_append_getElem (by simpa using h)];rfl
theorem and_one (z:Nat) (hz:z<4294967296):bits .and .u32 (z:Int) 1=((z%2:Nat):Int):=by
 rw[show (1:Int)=((1:Nat):Int) from rfl,u32_and_nat z 1 hz (by decide),Nat.and_one_is_mod]
theorem ajk (z:Nat) (hz:z<4294967296) (h:(bits .and .u32 (z:Int) 1==1)=true):bits .xor .u32 ((z:Int)/2) 3988292384=(ah.bit z:Int):=by
 rw[and_one z hz,beq_iff_eq]at h;have h2:z%2=1:=by omega
 rw[show ((z:Int)/2)=((z/2:Nat):Int) from by omega,show (3988292384:Int)=((3988292384:Nat):Int) from rfl,u32_xor_nat (z/2) 3988292384 (by omega) (by decide)];simp[ah.bit,h2]
theorem ajl (z:Nat) (hz:z<4294967296) (h:(bits .and .u32 (z:Int) 1==1)=false):((z:Int)/2)=(ah.bit z:Int):=by
 rw[and_one z hz,beq_eq_false_iff_ne]at h;have h2:¬ z%2=1:=by omega
 simp[ah.bit,h2]
theorem HY {k:IntKind} {a b:Int} (h:a=b):Value.int k a=.int k b:=by rw[h]
theorem tQ (s:ByteArray) (w:World) (hs:s.size<=maxLen) :
  Calls Tryz.prog 149 #[.string s] w fun e w'=>e=.returned (.int .u32 (ah.sum s.data.toList))/\w'=w:=by
 unfold maxLen at hs;go_enter Tryz.func149,Tryz.ntmps149;go_wp2
 go_loop [3,8] (fun n i=>∃ k:Nat,k<=s.size/\i=Qa k/\n=.int .u32 (ah.run (s.data.toList.take k) 4294967295)) (fun _ i=>s.size-(intOf i).toNat)
 case atStart=>exact⟨0,Nat.zero_le _,rfl,rfl⟩
 case round =>
  obtain⟨k,hk,rfl,rfl⟩:=hrel;have hr:ah.run (s.data.toList.take k) 4294967295<4294967296:=ah.Ng _ (by decide);by_cases hlt:k<s.size
  .have HS:Hid (ah.run (s.data.toList.take (k+1)) 4294967295=ah.byte (ah.run (s.data.toList.take k) 4294967295) s[k].toNat):=by
    rw[wb s k hlt];exact ah.ahB _ _ _
   have hb:s[k].toNat<256:=s[k].toNat_lt;generalize hg:ah.run (s.data.toList.take k) 4294967295=r at *;have apd:=hDq hg;clear hg;go_wp2;rw[u32_xor_nat r s[k].toNat hr (by omega)];have hx:r ^^^ s[k].toNat<4294967296:=ah.GQ hr (by omega);generalize hy:r ^^^ s[k].toNat=y at *;have Aj:=hDq hy;clear hy
   go_loop [3,17] (fun n i=>∃ j:Nat,j<=8/\i=Qa j/\n=.int .u32 (ah.bits j y)) (fun _ i=>8-(intOf i).toNat)
   case atStart=>exact⟨0,Nat.zero_le _,rfl,rfl⟩
   case round =>
    obtain⟨j,hj,rfl,rfl⟩:=hrel;have uX:ah.bits j y<4294967296:=ah.Nf j hx;have HB:=hDq (ah.VG j y);generalize hz:ah.bits j y=z at *;have ajm:=hDq hz;clear hz;by_cases ape:j<8
    .go_wp2
     .exact⟨⟨j+1,by omega,by go_num,HY (by rw[HB.out];exact ajk z uX ‹_›)⟩,by simp[intOf];omega⟩
     .exact⟨⟨j+1,by omega,by go_num,HY (by rw[HB.out];exact ajl z uX ‹_›)⟩,by simp[intOf];omega⟩
    .go_wp2
     have jy:j=8:=by omega
     exact⟨⟨k+1,by omega,by go_num,HY (by rw[HS.out,ah.byte,Aj.out,<- ajm.out,jy])⟩,by simp[intOf];omega⟩
  .go_wp2
   go_ret;exact⟨vL (by rw[show IntKind.u32.max=((4294967295:Nat):Int) from rfl,u32_xor_nat _ _ (by decide) hr,List.take_of_length_le (by simp;omega),Nat.xor_comm];rfl),rfl⟩
def Row (w:World) (base:Nat) (v:Value) (xs:List Int):Prop:=w.ownsRow base 5 1 v xs.length (xs.map (Value.int .u8))
theorem info5:∃ i,Tryz.prog.info? 5=some i/\i.zero=some (.int .u8 0)/\i.size=1/\i.bytes=1:=⟨_,rfl,rfl,rfl,rfl⟩
theorem JG (v:Value) (xs:List Int) (x:Int) (base:Nat) (w:World) (hown:Row w base v xs) (hn:xs.length<=100000) (hbase:base<=w.heap.size) :
  Calls Tryz.prog 183 #[v,.int .u32 x] w fun e w'=>∃ v',e=.returned v'/\Row w' base v' (xs++[x/16777216%256,x/65536%256,x/256%256,x%256])/\Below base w w':=by
 obtain⟨i5,hi,hz0,hz1,hz2⟩:=info5;have Hi:=hDq hi;have eG:=hDq hz0;have eH:=hDq hz1;have eI:=hDq hz2;clear hi hz0 hz1 hz2;have Aq:Hid (Row w base v xs):=hown;clear hown;go_enter Tryz.func183,Tryz.ntmps183
 go_wp2_with (at_builtin;refine wpList_append_own _ rfl _ _ 115 rfl base 5 i5 (.int .u8 0) 1 1 Tryz.underlying115 Hi.out eG.out eH.out eI.out rfl (by decide) _ _ _ rfl (World.ownsRow.alloc Aq.out _) (Qb w.heap.size 0) 4 4 ([x/16777216%256,x/65536%256,x/256%256,x%256].map (Value.int .u8)) rfl rfl ?c1 ?c2 ?c3 ?c4 ?c5 ?_)
 case c1 =>
  intro j u hj
  match j,hj with
  | 0,hj=>simp at hj;subst hj;simp[Addr.add]
  | 1,hj=>simp at hj;subst hj;simp[Addr.add]
  | 2,hj=>simp at hj;subst hj;simp[Addr.add]
  | 3,hj=>simp at hj;subst hj;simp[Addr.add]
 case c2=>intro u hu;simp at hu;rcases hu with rfl | rfl | rfl | rfl <;> rfl
 case c3=>unfold maxLen;omega
 case c4=>omega
 case c5=>simp;omega
 intro v' w2 hown' hgrow _;have HO:=hDq hown';have HG:=hDq hgrow;clear hown' hgrow;go_wp2;go_ret;refine⟨v',rfl,?_,?_⟩
 .have:=HO.out
  unfold Row;simpa using this
 .exact((bRq _ _).alloc hbase _).grown HG.out (by simp;omega) (fun k hk=>(World.ownsRow.lt Aq.out k hk).1)
theorem D7 (v:Value) (xs:List Int) (x:Int) (base:Nat) (w:World) (hown:Row w base v xs) (hn:xs.length<=100000) (hbase:base<=w.heap.size) :
  Calls Tryz.prog 183 #[v,.int .u32 (x%4294967296)] w fun e w'=>∃ v',e=.returned v'/\Row w' base v' (xs++[x/16777216%256,x/65536%256,x/256%256,x%256])/\Below base w w':=by
 have h:=JG v xs (x%4294967296) base w hown hn hbase;rw[show x%4294967296/16777216%256=x/16777216%256 by omega,show x%4294967296/65536%256=x/65536%256 by omega,show x%4294967296/256%256=x/256%256 by omega,show x%4294967296%256=x%256 by omega]at h;exact h
theorem Rf (v:Value) (xs:List Int) (x:Int) (base:Nat) (w:World) (hown:Row w base v xs) (hn:xs.length<=100000) (hbase:base<=w.heap.size) :
  Calls Tryz.prog 184 #[v,.int .u32 x] w fun e w'=>∃ v',e=.returned v'/\Row w' base v' (xs++[x%256,x/256%256,x/65536%256,x/16777216%256])/\Below base w w':=by
 obtain⟨i5,hi,hz0,hz1,hz2⟩:=info5;have Hi:=hDq hi;have eG:=hDq hz0;have eH:=hDq hz1;have eI:=hDq hz2;clear hi hz0 hz1 hz2;have Aq:Hid (Row w base v xs):=hown;clear hown;go_enter Tryz.func184,Tryz.ntmps184
 go_wp2_with (at_builtin;refine wpList_append_own _ rfl _ _ 115 rfl base 5 i5 (.int .u8 0) 1 1 Tryz.underlying115 Hi.out eG.out eH.out eI.out rfl (by decide) _ _ _ rfl (World.ownsRow.alloc Aq.out _) (Qb w.heap.size 0) 4 4 ([x%256,x/256%256,x/65536%256,x/16777216%256].map (Value.int .u8)) rfl rfl ?c1 ?c2 ?c3 ?c4 ?c5 ?_)
 case c1 =>
  intro j u hj
  match j,hj with
  | 0,hj=>simp at hj;subst hj;simp[Addr.add]
  | 1,hj=>simp at hj;subst hj;simp[Addr.add]
  | 2,hj=>simp at hj;subst hj;simp[Addr.add]
  | 3,hj=>simp at hj;subst hj;simp[Addr.add]
 case c2=>intro u hu;simp at hu;rcases hu with rfl | rfl | rfl | rfl <;> rfl
 case c3=>unfold maxLen;omega
 case c4=>omega
 case c5=>simp;omega
 intro v' w2 hown' hgrow _;have HO:=hDq hown';have HG:=hDq hgrow;clear hown' hgrow;go_wp2;go_ret;refine⟨v',rfl,?_,?_⟩
 .have:=HO.out
  unfold Row;simpa using this
 .exact((bRq _ _).alloc hbase _).grown HG.out (by simp;omega) (fun k hk=>(World.ownsRow.lt Aq.out k hk).1)
theorem D8 {w:World} {base:Nat} {v:Value} {xs:List Int} (h:Row w base v xs):(convert 115 9 v).run Tryz.prog w=.ok (.string (strOfNums xs)) w:=by
 obtain⟨hl,h⟩:=h;rcases h with ⟨rfl,hn⟩ | ⟨g,cap,cur,rfl,hb,hg,hn,hcap,hsz,ht⟩
 .obtain rfl:xs=[]:=by simpa using hn
  exact run_convert_bytes_nil w 115 5 Tryz.underlying115 Tryz.underlying5 0 0 9 Tryz.underlying9
 .refine run_convert_bytes_arg w 115 5 Tryz.underlying115 Tryz.underlying5 g 0 xs.length cap xs rfl ?_ 9 Tryz.underlying9
  intro i hi
  have:=World.ownsRow.cells (w:=w) (base:=base) (e:=5) (size:=1) (v:=.slice (some (Qb g 0)) xs.length cap) (n:=xs.length) (xs:=xs.map (Value.int .u8)) ⟨hl,.inr ⟨g,cap,cur,rfl,hb,hg,hn,hcap,hsz,ht⟩⟩ (g:=g) rfl i (.int .u8 (xs.getD i 0)) (by simp[hi])
  have hp:(⟨g,0,none⟩:Addr).add i=⟨g,0+i,none⟩:=by unfold Addr.add;split <;> simp_all
  rwa [hp]at this
theorem tT {w w1 wi:World} {C:Array Value} (hb1:Below (w.alloc (.cells C 95)).heap.size (w.alloc (.cells C 95)) w1) (hB:Qd w1 wi) (j:Nat):wi.cell? (Qb w.heap.size j)=C[j]?:=by
 have hs:w.heap.size<(w.alloc (.cells C 95)).heap.size:=by simp
 have hs1:w.heap.size<w1.heap.size:=Nat.lt_of_lt_of_le hs hb1.size;rw[hB.cell (p:=(Qb w.heap.size j)) hs1,hb1.cell (p:=(Qb w.heap.size j)) hs];simp
def ah.high (x:Int):List Int:=[x/16777216%256,x/65536%256,x/256%256,x%256]
def ah.low (x:Int):List Int:=[x%256,x/256%256,x/65536%256,x/16777216%256]
def ah.body (k c sq it sd pr q id:Int):List Int :=
 (((((([k,c%256]++ah.high sq)++[it%256,sd%256])++ah.high pr)++ah.high q)++ah.high id)++[0,0,0,0,0,0])
def ah.frame (k c sq it sd pr q id:Int):List Int :=
 ah.body k c sq it sd pr q id++ah.low (ah.sum (strOfNums (ah.body k c sq it sd pr q id)).data.toList)
theorem acP (k c sq it sd pr q id:Int) (w:World) (hk:ah.mg k=true) (hbd:ah.ku k c sq it sd pr q id=true) (hsh:ah.m_ k it sd pr q id=true) :
  Calls Tryz.prog 138 #[.agg #[.int .u8 k,Qa c,Qa sq,Qa it,Qa sd,Qa pr,Qa q,Qa id]] w fun e w'=>e=.returned (.tuple #[.string (strOfNums (ah.frame k c sq it sd pr q id)),.nilIface])/\Qd w w':=by
 obtain⟨i5,hi,hz0,hz1,hz2⟩:=info5;have Hi:=hDq hi;have eG:=hDq hz0;have eH:=hDq hz1;have eI:=hDq hz2;clear hi hz0 hz1 hz2;have aP:∀ w,(Instr.makeSlice 115 (Qa 0) (Qa 30)).run Tryz.prog w=.ok (.slice (some (Qb w.heap.size 0)) 0 30) (w.alloc (.cells #[.int .u8 0,.int .u8 0,.int .u8 0,.int .u8 0,.int .u8 0,.int .u8 0,.int .u8 0,.int .u8 0,.int .u8 0,.int .u8 0,.int .u8 0,.int .u8 0,.int .u8 0,.int .u8 0,.int .u8 0,.int .u8 0,.int .u8 0,.int .u8 0,.int .u8 0,.int .u8 0,.int .u8 0,.int .u8 0,.int .u8 0,.int .u8 0,.int .u8 0,.int .u8 0,.int .u8 0,.int .u8 0,.int .u8 0,.int .u8 0] 5)):=fun _=>by kernel_rfl
 go_enter Tryz.func138,Tryz.ntmps138
 go_wp2_with fail
 refine(DV _ _ _ _ _ _ _ _ _ hk hbd hsh).mono ?_;rintro e w1 ⟨rfl,hb1⟩;have hz1:w.heap.size<w1.heap.size:=by have:=hb1.size;simp at this;omega
 have hc0:w1.cell? (Qb w.heap.size 0)=some (.int .u8 k):=tT hb1 (bRq _ _) 0;have hc1:w1.cell? (Qb w.heap.size 1)=some (Qa c):=tT hb1 (bRq _ _) 1;have Hb1:=hDq hb1;clear hb1;have fy:Hid (Row (w1.alloc (.cells #[.int .u8 0,.int .u8 0,.int .u8 0,.int .u8 0,.int .u8 0,.int .u8 0,.int .u8 0,.int .u8 0,.int .u8 0,.int .u8 0,.int .u8 0,.int .u8 0,.int .u8 0,.int .u8 0,.int .u8 0,.int .u8 0,.int .u8 0,.int .u8 0,.int .u8 0,.int .u8 0,.int .u8 0,.int .u8 0,.int .u8 0,.int .u8 0,.int .u8 0,.int .u8 0,.int .u8 0,.int .u8 0,.int .u8 0,.int .u8 0] 5)) w1.heap.size (.slice (some (Qb w1.heap.size 0)) 0 30) []):=World.ownsRow_made w1 _ 30 (lRq _) (by decide) rfl
 go_wp2_with (at_builtin;refine wpList_append_own _ rfl _ _ 115 rfl w1.heap.size 5 i5 (.int .u8 0) 1 1 Tryz.underlying115 Hi.out eG.out eH.out eI.out rfl (by decide) _ _ _ rfl (World.ownsRow.alloc fy.out _) ⟨w1.heap.size+1,0,none⟩ 2 2 ([k,c%256].map (Value.int .u8)) rfl rfl ?c1 ?c2 ?c3 ?c4 ?c5 ?_)
 case c1 =>
  intro j u hj
  match j,hj with
  | 0,hj=>simp at hj;subst hj;simp[Addr.add]
  | 1,hj=>simp at hj;subst hj;simp[Addr.add]
 case c2=>intro u hu;simp at hu;rcases hu with rfl | rfl <;> rfl
 case c3=>unfold maxLen;simp
 case c4=>simp
 case c5=>simp;omega
 intro v2 w2 hown' hgrow _;have bq:Hid (Row w2 w1.heap.size v2 [k,c%256]):=hown';have HB2:Hid (Qd w1 w2):=((((bRq _ _).alloc (lRq _) _).alloc (by simp) _).grown hgrow (by simp;omega) (fun k hk=>(World.ownsRow.lt fy.out k hk).1));clear hown' hgrow;have hc2:w2.cell? (Qb w.heap.size 2)=some (Qa sq):=tT Hb1.out HB2.out 2
 go_wp2_with fail
 refine(D7 v2 _ _ w1.heap.size w2 bq.out (by simp) HB2.out.size).mono ?_;rintro e w3 ⟨v3,rfl,hr3,hb3⟩;have HR3:Hid (Row w3 w1.heap.size v3 ([k,c%256]++ah.high sq)):=hr3;have au:Hid (Qd w1 w3):=HB2.out.trans hb3;clear hr3 hb3;have an7:w3.cell? (Qb w.heap.size 3)=some (Qa it):=tT Hb1.out au.out 3;have an8:w3.cell? (Qb w.heap.size 4)=some (Qa sd):=tT Hb1.out au.out 4
 go_wp2_with (at_builtin;refine wpList_append_own _ rfl _ _ 115 rfl w1.heap.size 5 i5 (.int .u8 0) 1 1 Tryz.underlying115 Hi.out eG.out eH.out eI.out rfl (by decide) _ _ _ rfl (World.ownsRow.alloc HR3.out _) (Qb w3.heap.size 0) 2 2 ([it%256,sd%256].map (Value.int .u8)) rfl rfl ?c1 ?c2 ?c3 ?c4 ?c5 ?_)
 case c1 =>
  intro j u hj
  match j,hj with
  | 0,hj=>simp at hj;subst hj;simp[Addr.add]
  | 1,hj=>simp at hj;subst hj;simp[Addr.add]
 case c2=>intro u hu;simp at hu;rcases hu with rfl | rfl <;> rfl
 case c3=>unfold maxLen;simp[ah.high]
 case c4=>simp[ah.high]
 case c5=>have:=au.out.size;simp;omega
 intro v4 w4 hown' hgrow _;have bR:Hid (Row w4 w1.heap.size v4 (([k,c%256]++ah.high sq)++[it%256,sd%256])):=hown';have bJ:Hid (Qd w1 w4):=(au.out.alloc au.out.size _).grown hgrow (by have:=au.out.size;simp;omega) (fun k hk=>(World.ownsRow.lt HR3.out k hk).1);clear hown' hgrow;have an9:w4.cell? (Qb w.heap.size 5)=some (Qa pr):=tT Hb1.out bJ.out 5
 go_wp2_with fail
 refine(D7 v4 _ _ w1.heap.size w4 bR.out (by simp[ah.high]) bJ.out.size).mono ?_;rintro e aC ⟨v5,rfl,fG,di⟩;have bA:Hid (Row aC w1.heap.size v5 ((([k,c%256]++ah.high sq)++[it%256,sd%256])++ah.high pr)):=fG;have ck:Hid (Qd w1 aC):=bJ.out.trans di;clear fG di;have aoa:aC.cell? (Qb w.heap.size 6)=some (Qa q):=tT Hb1.out ck.out 6
 go_wp2_with fail
 refine(D7 v5 _ _ w1.heap.size aC bA.out (by simp[ah.high]) ck.out.size).mono ?_;rintro e ai ⟨v6,rfl,iA,hb6⟩;have bz:Hid (Row ai w1.heap.size v6 (((([k,c%256]++ah.high sq)++[it%256,sd%256])++ah.high pr)++ah.high q)):=iA;have aY:Hid (Qd w1 ai):=ck.out.trans hb6;clear iA hb6;have aob:ai.cell? (Qb w.heap.size 7)=some (Qa id):=tT Hb1.out aY.out 7
 go_wp2_with fail
 refine(D7 v6 _ _ w1.heap.size ai bz.out (by simp[ah.high]) aY.out.size).mono ?_;rintro e br ⟨v7,rfl,rW,kU⟩;have fH:Hid (Row br w1.heap.size v7 ((((([k,c%256]++ah.high sq)++[it%256,sd%256])++ah.high pr)++ah.high q)++ah.high id)):=rW;have i6:Hid (Qd w1 br):=aY.out.trans kU;clear rW kU
 go_wp2_with (at_builtin;refine Lib.wpList_append_own_string _ rfl _ _ 115 9 rfl w1.heap.size 5 i5 Tryz.underlying115 Tryz.underlying9 Hi.out eG.out eH.out eI.out _ _ _ rfl fH.out ⟨#[0,0,0,0,0,0]⟩ rfl ?c3 ?c4 ?c5 ?_)
 case c3=>unfold maxLen;simp[ah.high,ByteArray.size]
 case c4=>simp[ah.high,ByteArray.size]
 case c5=>exact i6.out.size
 intro v8 cn hown' hgrow _;have tV:Hid (Row cn w1.heap.size v8 (ah.body k c sq it sd pr q id)):=hown';have mj:Hid (Qd w1 cn):=i6.out.grown hgrow i6.out.size (fun k hk=>(World.ownsRow.lt fH.out k hk).1);clear hown' hgrow;have hcv:=D8 tV.out
 go_wp2_with fail
 refine(tQ _ _ (by unfold maxLen;simp[strOfNums,ah.body,ah.high,ByteArray.size])).mono ?_;rintro e i7 ⟨rfl,rfl⟩
 go_wp2_with fail
 refine(Rf v8 _ _ w1.heap.size _ tV.out (by simp[ah.body,ah.high]) mj.out.size).mono ?_;rintro e Rh ⟨v10,rfl,Ar,Ri⟩;have JH:Hid (Row Rh w1.heap.size v10 (ah.frame k c sq it sd pr q id)):=Ar;have vY:Hid (Qd w1 Rh):=mj.out.trans Ri;clear Ar Ri hcv;have aoc:=D8 JH.out;go_wp2;go_ret2;refine⟨rfl,?_⟩;exact(((bRq _ _).alloc (lRq _) _).trans (Hb1.out.mono (by simp))).trans (vY.out.mono (Nat.le_of_lt hz1))
theorem ada (k c sq it sd pr q id:Int) (T:TypeId) (x:Value) (w:World)
  (Am:Hid (∀ o,Calls Tryz.prog 151 #[.agg #[.int .u8 k,Qa c,Qa sq,Qa it,Qa sd,Qa pr,Qa q,Qa id]] (w.alloc o) fun e w'=>e=.returned (.iface T x)/\Below (w.alloc o).heap.size (w.alloc o) w')) :
  Calls Tryz.prog 138 #[.agg #[.int .u8 k,Qa c,Qa sq,Qa it,Qa sd,Qa pr,Qa q,Qa id]] w fun e w'=>e=.returned (.tuple #[.string ⟨#[]⟩,.iface T x])/\Qd w w':=by
 go_enter Tryz.func138,Tryz.ntmps138
 go_wp2_with fail
 refine(Am.out _).mono ?_;rintro e w1 ⟨rfl,hb1⟩;go_wp2;go_ret2;exact⟨rfl,((bRq _ _).alloc (lRq _) _).trans (hb1.mono (by simp))⟩
def dY (w:World) (base:Nat) (v:Value) (xs:List Int):Prop :=
 ∃ g cap cur fz,v=.slice (some (Qb g 0)) xs.length cap/\base<=g/\w.heap[g]?=some (.cells cur 5 fz)/\(∀ j,j<cur.size->j<fz.1\/fz.2<=j) /\
  xs.length<=cap/\cap<=maxLen/\cur.size=cap/\cur.toList.take xs.length=xs.map (Value.int .u8)
theorem UF (P:Program) (g o:Nat) (t:TypeId) (fz:Nat×Nat):∀ (vs:List Value) (i:Nat) (cur:Array Value) (w:World),w.heap[g]?=some (.cells cur t fz)->(∀ j,j<cur.size->j<fz.1\/fz.2<=j)->o+i+vs.length<=cur.size->(∀ v∈vs,v.oneCell'=true) ->
  (storeCells (Qb g o) vs i).run P w=.ok () (w.setRow g (cur.toList.take (o+i)++vs++cur.toList.drop (o+i+vs.length)).toArray)
 | [],i,cur,w,hg,_,_,_=>by
  simp only[storeCells,List.append_nil,List.length_nil,Nat.add_zero,List.take_append_drop,Array.toArray_toList];rw[setRow_self w g cur t fz hg];rfl
 | v::rest,i,cur,w,hg,hfz,hl,h1=>by
  have hi:o+i<cur.size:=by simp at hl;omega
  have yH:(⟨g,o,none⟩:Addr).add i=⟨g,o+i,none⟩:=by unfold Addr.add;split <;> simp_all
  have hcell:w.cell? ⟨g,o+i,none⟩=some cur[o+i]:=by simp[World.cell?,hg,hi]
  have agi:w.frozen? ⟨g,o+i,none⟩=false:=by
   have:=hfz (o+i) hi
   obtain⟨lo,hi'⟩:=fz;simp only[World.frozen?,hg,Bool.and_eq_false_iff,decide_eq_false_iff_not];simp only at this;omega
  have hst:(store ((⟨g,o,none⟩:Addr).add i) v).run P w=.ok () (w.setRow g (cur.setIfInBounds (o+i) v)):=by
   rw[yH,run_store P w _ v _ (h1 v (by simp)),hcell];simp[agi,setCell_eq_setRow w g (o+i) cur t fz v hg]
  have ih:=UF P g o t fz rest (i+1) (cur.setIfInBounds (o+i) v) (w.setRow g (cur.setIfInBounds (o+i) v)) (setRow_heap w g cur _ t _ hg) (by simpa using hfz) (by simp at hl ⊢;omega) (fun x hx=>h1 x (by simp[hx]));simp only[storeCells,Sem.run_bind,hst,Result.andThen_ok,ih,setRow_setRow];congr 3;have e:=list_seg_step cur.toList (o+i) v rest (by simp at hl ⊢;omega);simpa [Array.toList_setIfInBounds,Nat.add_assoc] using e
theorem dY.cells {w:World} {base g len cap:Nat} {xs:List Int} (h:dY w base (.slice (some (Qb g 0)) len cap) xs):∀ j u,(xs.map (Value.int .u8))[j]?=some u->w.cell? ((⟨g,0,none⟩:Addr).add j)=some u:=by
 intro j u hu;obtain⟨g',cap',cur,fz,hv,_,hg,_,_,_,_,ht⟩:=h;simp only[Value.slice.injEq,Option.some.injEq,Addr.mk.injEq,and_true]at hv;obtain⟨rfl,rfl,rfl⟩:=hv;have yH:(⟨g,0,none⟩:Addr).add j=(Qb g j):=by unfold Addr.add;split <;> simp_all
 rw[yH,cR w g j cur 5 fz hg];rw[<- ht,List.getElem?_take]at hu;split at hu
 .simpa using hu
 .cases hu
theorem agj (w:World) (base:Nat) (ty:TypeId) (v:Value) (xs:List Int) (hown:dY w base v xs)
  (a:Addr) (m c:Nat) (ys:List Int) (hl:ys.length=m) (hnews:∀ j u,(ys.map (Value.int .u8))[j]?=some u->w.cell? (a.add j)=some u)
  (hsz:xs.length+m<=10000000) (hbase:base<=w.heap.size) :
  ∃ v' w',(Builtin.append_ #[115,115] ty #[v,.slice (some a) m c]).run Tryz.prog w=.ok v' w'/\dY w' base v' (xs++ys)/\w.grownBy w' v.ownBlock/\(∀ k,v'.ownBlock=some k->v.ownBlock=some k\/w.heap.size<=k):=by
 obtain⟨i,hi,hz,hz1,hz2⟩:=info5;obtain⟨g,cap,cur,fz,rfl,hbg,hg,hfz,hnc,hcm,hcs,ht⟩:=id hown;have h1:∀ u∈ys.map (Value.int .u8),u.oneCell'=true:=fun u hu=>by obtain⟨_,_,rfl⟩:=List.mem_map.1 hu;rfl
 have hl':(ys.map (Value.int .u8)).length=m*i.size:=by rw[hz1];simpa using hl
 have hlen:(xs++ys).length=xs.length+m:=by simp[hl]
 by_cases hroom:xs.length+m<=cap
 .have hf:=run_firstCells_some (P:=Tryz.prog) w i.size m a m c _ hl' hnews
  have hst:=UF Tryz.prog g (xs.length*i.size) 5 fz (ys.map (Value.int .u8)) 0 cur w hg hfz (by rw[hz1];simp[hl];omega) h1;rw[hz1]at hf;simp only[hz1,Nat.mul_one,Nat.add_zero]at hst;refine⟨_,_,by simp[Builtin.append_,run_underlying Tryz.underlying115,sizeOf,typeInfo,hi,hz1,Builtin.lenOf,hroom,hf,Addr.add_lit,hst];exact⟨rfl,rfl⟩,⟨g,cap,_,fz,by rw[hlen],hbg,setRow_heap w g cur _ 5 _ hg,?_,by omega,hcm,?_,?_⟩,⟨rfl,rfl,rfl,by simp,fun k _ hk=>setRow_other w g k _ (fun e=>hk (by simp[Value.ownBlock,e]))⟩,fun k hk=>.inl (by simpa [Value.ownBlock] using hk)⟩
  .intro j hj
   refine hfz j ?_;simp only[List.size_toArray,List.length_append,List.length_take,List.length_drop,Array.length_toList,List.length_map]at hj;omega
  .simp only[List.size_toArray,List.length_append,List.length_take,List.length_drop,Array.length_toList,List.length_map]
   omega
  .simp only[]
   rw[ht,<- aAq,List.map_append,hlen,show xs.length+m=(xs.map (Value.int .u8)++ys.map (Value.int .u8)).length by simp[hl]];exact List.take_left
 .have holds:=dY.cells hown
  have hr:=run_append_grow (P:=Tryz.prog) w 115 ty 5 i _ Tryz.underlying115 hi hz (Qb g 0) xs.length cap (xs.map (Value.int .u8)) (by rw[hz1];simp) holds a m c _ hl' hnews (by omega) (by omega) (growslice_fits (by omega) (by rw[hz2];omega));have lm:=grownCap_ge w (xs.length+m) cap 5;refine⟨_,_,hr,⟨w.heap.size,_,_,(0,0),by rw[hlen],hbase,hNq w.drew _,fun j _=>.inr (Nat.zero_le _),by omega,grownCap_le_maxLen w (xs.length+m) cap 5 (by unfold maxLen;omega),?_,?_⟩,⟨rfl,rfl,rfl,by simp,fun k hk _=>heap_alloc_old w.drew _ hk⟩,fun k hk=>.inr (by simp[Value.ownBlock]at hk;omega)⟩
  .simp only[Array.size_append,List.size_toArray,size_zeroCells,List.length_map,hl]
   simp[Value.cells];omega
  .simp only[Array.toList_append,List.append_assoc]
   rw[<- aAq,List.map_append,hlen,show xs.length+m=(xs.map (Value.int .u8)++ys.map (Value.int .u8)).length by simp[hl]];exact List.take_left
theorem dY.lt {w:World} {base:Nat} {v:Value} {xs:List Int} (h:dY w base v xs):∀ k,v.ownBlock=some k->base<=k/\k<w.heap.size:=by
 obtain⟨g,cap,cur,fz,rfl,hbg,hg,_⟩:=h;intro k hk;obtain rfl:g=k:=by simpa [Value.ownBlock] using hk
 exact⟨hbg,(Array.getElem?_eq_some_iff.1 hg).1⟩
theorem agk {w:World} {base:Nat} {v:Value} {xs:List Int} (h:dY w base v xs):(convert 115 9 v).run Tryz.prog w=.ok (.string (strOfNums xs)) w:=by
 obtain⟨g,cap,cur,fz,rfl,hbg,hg,hfz,hnc,hcm,hcs,ht⟩:=id h;refine run_convert_bytes_arg w 115 5 Tryz.underlying115 Tryz.underlying5 g 0 xs.length cap xs rfl ?_ 9 Tryz.underlying9;intro i hi
 have:=dY.cells h i (.int .u8 (xs.getD i 0)) (by simp[hi])
 have hp:(⟨g,0,none⟩:Addr).add i=⟨g,0+i,none⟩:=by unfold Addr.add;split <;> simp_all
 rwa [hp]at this
theorem dY.take {w:World} {base g len cap:Nat} {xs:List Int} (h:dY w base (.slice (some (Qb g 0)) len cap) xs) (n:Nat) (hn:n<=xs.length):dY w base (.slice (some (Qb g 0)) n cap) (xs.take n):=by
 obtain⟨g',cap',cur,fz,h2,hb,hg,hz,hc,hm,hs,ht⟩:=h;simp only[Value.slice.injEq,Option.some.injEq,Addr.mk.injEq,and_true]at h2;obtain⟨rfl,rfl,rfl⟩:=h2;have hl:(xs.take n).length=n:=by simp;omega
 refine⟨g,cap,cur,fz,by rw[hl],hb,hg,hz,by rw[hl];omega,hm,hs,?_⟩;rw[hl,List.map_take,<- ht,List.take_take];congr 1;omega
theorem agl (w:World) (s:ByteArray) (hs:s.size<=100000):∃ v w',(convert 9 115 (.string s)).run Tryz.prog w=.ok v w'/\dY w' w.heap.size v (s.data.toList.map fun b=>(b.toNat:Int))/\Qd w w':=by
 have hr:=run_bytes_of_string (P:=Tryz.prog) w 9 115 5 s Tryz.underlying9 Tryz.underlying115 Tryz.underlying5;have lm:=grownCap_ge w s.size 0 5;have hsl:s.data.toList.length=s.size:=by rw[Array.length_toList];rfl
 refine⟨_,_,hr,⟨w.heap.size,_,_,_,by rw[List.length_map,hsl],lRq _,hNq w.drew _,fun j hj=>.inl hj,by rw[List.length_map,hsl];exact lm,grownCap_le_maxLen w s.size 0 5 (by unfold maxLen;omega),?_,?_⟩,?_⟩
 .have:s.data.size=s.size:=rfl
  simp only[bytesRow,Array.size_append,Array.size_map,Array.size_replicate];omega
 .simp only[bytesRow,Array.toList_append,Array.toList_map,List.length_map,List.map_map]
  rw[List.take_left' (by simp)];rfl
 .exact⟨rfl,rfl,rfl,by simp,fun k hk=>heap_alloc_old w.drew _ hk⟩
def ints (l:List UInt8):List Int:=l.map fun b=>(b.toNat:Int)
def ba (l:List UInt8):ByteArray:=⟨l.toArray⟩
theorem iT (l:List UInt8):(ints l).length=l.length:=by simp[ints]
theorem Od (a b:List UInt8):ints (a++b)=ints a++ints b:=by simp[ints]
theorem XI (l:List UInt8) (n:Nat):ints (l.take n)=(ints l).take n:=by simp[ints]
theorem ajx (l:List UInt8):strOfNums (ints l)=ba l:=by
 apply ByteArray.ext;simp only[strOfNums,ints,ba,List.map_map];congr 1
 conv=>rhs;rw[<- List.map_id l]
 exact List.map_congr_left fun b _=>by simp
theorem ajv (s:ByteArray):Lib.strCells s=(ints s.data.toList).map (Value.int .u8):=by simp[Lib.strCells,ints]
theorem XJ (l:List UInt8):(ba l).data.toList=l:=by simp[ba]
theorem Og (l:List UInt8):(ba l).size=l.length:=by simp[ba,ByteArray.size]
theorem qi (s:ByteArray):s.data.toList.length=s.size:=by rw[Array.length_toList];rfl
theorem XG (n:Nat):ints (bC.four n)=[(n:Int)/16777216%256,(n:Int)/65536%256,(n:Int)/256%256,(n:Int)%256]:=by
 simp[ints,bC.four]
theorem ajw (n:Nat):ints (bC.low n)=[(n:Int)%256,(n:Int)/256%256,(n:Int)/65536%256,(n:Int)/16777216%256]:=by
 simp[ints,bC.low]
def Strs (w:World) (base:Nat) (v:Value) (ts:List (List UInt8)):Prop:=w.ownsRow base 9 1 v ts.length (ts.map fun t=>Value.string (ba t))
def XK (w:World) (base p:Nat) (l:List UInt8) (cut:Bool) (left:Int):Prop :=
 base<=p/\∃ v,w.heap[p]?=some (.cells #[v,.bool cut,Qa left] 117 (0,0))/\dY w base v (ints l)
structure s6 (w w':World):Prop where
 size:w.heap.size<=w'.heap.size
 block:∀ (k:Nat) (c:Array Value) (f:Nat×Nat),w.heap[k]?=some (.cells c 9 f)->w'.heap[k]?=some (.cells c 9 f)
theorem s6.trans {a b c:World} (h1:s6 a b) (h2:s6 b c):s6 a c:=⟨lTq h1.size h2.size,fun k c f h=>h2.block k c f (h1.block k c f h)⟩
theorem s6.below {w w':World} (h:Qd w w'):s6 w w' :=
 ⟨h.size,fun k c f e=>by rw[h.block k (Array.getElem?_eq_some_iff.1 e).1];exact e⟩
theorem Strs.keeps {w w':World} {base:Nat} {v:Value} {ts:List (List UInt8)} (h:Strs w base v ts) (hk:s6 w w'):Strs w' base v ts:=by
 refine⟨h.1,?_⟩;rcases h.2 with hn | ⟨g,cap,cur,rfl,hb,hg,rest⟩
 .exact .inl hn
 .exact .inr ⟨g,cap,cur,rfl,hb,hk.block _ _ _ hg,rest⟩
theorem Strs.cells {w:World} {base:Nat} {g len cap:Nat} {ts:List (List UInt8)} (h:Strs w base (.slice (some (Qb g 0)) len cap) ts):∀ i,i<ts.length->w.cell? (Qb g i)=some (.string (ba (ts.getD i []))):=by
 intro i hi
 have:=World.ownsRow.cells h (g:=g) rfl i (.string (ba (ts.getD i []))) (by simp[List.getElem?_eq_getElem hi,List.getD_eq_getElem?_getD])
 have hp:(⟨g,0,none⟩:Addr).add i=(Qb g i):=by unfold Addr.add;split <;> simp_all
 rwa [hp]at this
theorem dY.form {w:World} {base:Nat} {v:Value} {xs:List Int} (h:dY w base v xs):∃ g cap,v=.slice (some (Qb g 0)) xs.length cap/\xs.length<=cap:=by
 obtain⟨g,cap,cur,fz,hv,_,_,_,hc,_⟩:=h;exact⟨g,cap,hv,hc⟩
theorem dY.block {w w':World} {base:Nat} {v:Value} {xs:List Int} (h:dY w base v xs) (hb:∀ k,v.ownBlock=some k->w'.heap[k]?=w.heap[k]?):dY w' base v xs:=by
 obtain⟨g,cap,cur,fz,rfl,hb',hg,rest⟩:=h;exact⟨g,cap,cur,fz,rfl,hb',(hb g rfl).trans hg,rest⟩
theorem dY.setCell {w:World} {base p j:Nat} {v:Value} {xs:List Int} {cs:Array Value} {f:Nat×Nat} (h:dY w base v xs) (hp:w.heap[p]?=some (.cells cs 117 f)) (u:Value):dY (w.setCell (Qb p j) u) base v xs:=by
 obtain⟨g,cap,cur,fz,rfl,hb',hg,rest⟩:=h;refine⟨g,cap,cur,fz,rfl,hb',?_,rest⟩;rw[heap_setCell_other _ _ g _ ?_]
 .exact hg
 .intro hk
  have hk:g=p:=hk;rw[hk,hp]at hg;simp at hg
theorem dY.other {w:World} {base p:Nat} {v:Value} {xs:List Int} {cs:Array Value} {f:Nat×Nat} (h:dY w base v xs) (hp:w.heap[p]?=some (.cells cs 117 f)):some p≠v.ownBlock:=by
 obtain⟨g,cap,cur,fz,rfl,hb',hg,rest⟩:=h;intro hk;have hk:p=g:=by simpa [Value.ownBlock] using hk
 rw[<- hk,hp]at hg;simp at hg
theorem H4 (s:ByteArray) (w:World) (hs:s.size<=1000000) :
  Calls Tryz.prog 102 #[.string s] w fun e w'=>e=.returned (Qa ((12+s.size:Nat):Int))/\w'=w:=by
 go_enter Tryz.func102,Tryz.ntmps102;go_wp2;go_ret;exact⟨vL (by omega),rfl⟩
theorem s7 {w:World} {p:Nat} {v:Value} {cut:Bool} {left:Int} (h:w.heap[p]?=some (.cells #[v,.bool cut,Qa left] 117 (0,0))) :
  w.cell? (Qb p 0)=some v/\w.cell? (Qb p 1)=some (.bool cut)/\w.cell? (Qb p 2)=some (Qa left)/\(∀ j,w.frozen? (Qb p j)=false)/\p<w.heap.size :=
 ⟨by rw[cR w p 0 _ 117 (0,0) h];rfl,by rw[cR w p 1 _ 117 (0,0) h];rfl,by rw[cR w p 2 _ 117 (0,0) h];rfl,fun j=>frozen_of_row w p j _ 117 h,(Array.getElem?_eq_some_iff.1 h).1⟩
theorem XP (base p:Nat) (l:List UInt8) (cut:Bool) (left:Int) (w:World) (h:XK w base p l cut left) :
  Calls Tryz.prog 59 #[Qc p] w fun e w'=>e=.returned (.string (ba l))/\w'=w:=by
 obtain⟨_,v,h,hr⟩:=h;obtain⟨c0,c1,c2,fz,hp⟩:=s7 h;clear h;have hcv:=agk hr;rw[ajx]at hcv;clear hr;go_enter Tryz.func59,Tryz.ntmps59;go_wp2;go_ret;exact⟨rfl,rfl⟩
theorem ajG (s:ByteArray) (w:World) (hs:s.size<=100000) :
  Calls Tryz.prog 52 #[.string s] w fun e w'=>∃ p,e=.returned (.tuple #[Qc p,.nilIface])/\XK w' w.heap.size p s.data.toList false 0/\Qd w w':=by
 obtain⟨v,w1,hcv,hr,hb⟩:=agl w s hs;change dY w1 w.heap.size v (ints s.data.toList) at hr;obtain⟨g,cap,hv,_⟩:=hr.form;rw[iT,qi]at hv;subst hv;have hs':¬ (1048576:Int)<s.size:=by omega
 have HR:=hDq hr;have HB:=hDq hb;clear hr hb;go_enter Tryz.func52,Tryz.ntmps52;go_wp2;go_ret2;refine⟨w1.heap.size,rfl,⟨HB.out.size,_,hNq w1 _,?_⟩,HB.out.alloc HB.out.size _⟩;exact HR.out.block fun k hk=>heap_alloc_old w1 _ (HR.out.lt k hk).2
theorem ah.BA (k c sq it sd pr q id:Int):(ah.frame k c sq it sd pr q id).length=30:=by simp[ah.frame,ah.body,ah.high,ah.low]
theorem strOfNums_size (xs:List Int):(strOfNums xs).size=xs.length:=by simp[strOfNums,ByteArray.size]
def pD (v1 v2 v3:Value) (n:Nat):Value:=if n=2 then v1 else if n=3 then v2 else v3
theorem Q_ (k c sq it sd pr q id:Int) (v1 v2 v3:Value) (w:World) (h1:w.cell? (Qb 1 0)=some v1) (h2:w.cell? (Qb 3 0)=some v2) (h3:w.cell? (Qb 4 0)=some v3) (hc:ah.code k c sq it sd pr q id≠0) :
  Calls Tryz.prog 151 #[.agg #[.int .u8 k,Qa c,Qa sq,Qa it,Qa sd,Qa pr,Qa q,Qa id]] w fun e w'=>e=.returned (pD v1 v2 v3 (ah.code k c sq it sd pr q id))/\Qd w w':=by
 have dw:=bCq _ _ h1;have z2:=bCq _ _ h2;have z3:=bCq _ _ h3;cases hk:ah.mg k with
 | false =>
  have e:pD v1 v2 v3 (ah.code k c sq it sd pr q id)=v3:=by simp[ah.code,hk,pD]
  rw[e];exact Jf k c sq it sd pr q id v3 w z3 h3 hk
 | true =>
  cases hb:ah.ku k c sq it sd pr q id with
  | false =>
   have e:pD v1 v2 v3 (ah.code k c sq it sd pr q id)=v1:=by simp[ah.code,hk,hb,pD]
   rw[e];exact Jg k c sq it sd pr q id v1 w dw h1 hk hb
  | true =>
   cases hs:ah.m_ k it sd pr q id with
   | false =>
    have e:pD v1 v2 v3 (ah.code k c sq it sd pr q id)=v2:=by simp[ah.code,hk,hb,hs,pD]
    rw[e];exact Jh k c sq it sd pr q id v2 w z2 h2 hk hb hs
   | true=>simp[ah.code,hk,hb,hs]at hc
theorem aeX {T1 T2 T3:TypeId} {x1 x2 x3:Value} (n:Nat):∃ T x,pD (.iface T1 x1) (.iface T2 x2) (.iface T3 x3) n=.iface T x:=by
 unfold pD;split
 .exact⟨_,_,rfl⟩
 .split
  .exact⟨_,_,rfl⟩
  .exact⟨_,_,rfl⟩
theorem acQ (k c sq it sd pr q id:Int) (T1 T2 T3:TypeId) (x1 x2 x3:Value) (w:World) (h1:w.cell? (Qb 1 0)=some (.iface T1 x1)) (h2:w.cell? (Qb 3 0)=some (.iface T2 x2)) (h3:w.cell? (Qb 4 0)=some (.iface T3 x3)) (hc:ah.code k c sq it sd pr q id≠0) :
  Calls Tryz.prog 138 #[.agg #[.int .u8 k,Qa c,Qa sq,Qa it,Qa sd,Qa pr,Qa q,Qa id]] w fun e w'=>e=.returned (.tuple #[.string ⟨#[]⟩,pD (.iface T1 x1) (.iface T2 x2) (.iface T3 x3) (ah.code k c sq it sd pr q id)])/\Qd w w':=by
 obtain⟨T,x,he⟩:=aeX (T1:=T1) (T2:=T2) (T3:=T3) (x1:=x1) (x2:=x2) (x3:=x3) (ah.code k c sq it sd pr q id);rw[he];refine ada k c sq it sd pr q id T x w (fun o=>?_);rw[<- he];have hb:Qd w (w.alloc o):=(bRq _ _).alloc (lRq _) o;exact Q_ k c sq it sd pr q id _ _ _ (w.alloc o) (cell_later hb h1) (cell_later hb h2) (cell_later hb h3) hc
theorem Jz {k c sq it sd pr q id:Int} (h:ah.code k c sq it sd pr q id=0):ah.mg k=true/\ah.ku k c sq it sd pr q id=true/\ah.m_ k it sd pr q id=true:=by
 cases hk:ah.mg k <;> cases hb:ah.ku k c sq it sd pr q id <;> cases hs:ah.m_ k it sd pr q id <;> simp[ah.code,hk,hb,hs]at h ⊢
end
theorem ah.within_iff {x lo hi:Int}:ah.aG x lo hi=true↔lo<=x/\x<=hi:=by simp[ah.aG]
structure ah.Fits (k c sq it sd pr q id:Int):Prop where
 k:0<=k/\k<256
 c:0<=c/\c<256
 sq:0<=sq/\sq<4294967296
 it:0<=it/\it<256
 sd:0<=sd/\sd<256
 pr:0<=pr/\pr<4294967296
 q:0<=q/\q<4294967296
 id:0<=id/\id<4294967296
theorem ah.fits {k c sq it sd pr q id:Int} (h:ah.code k c sq it sd pr q id=0):ah.Fits k c sq it sd pr q id:=by
 obtain⟨h1,h2,h3⟩:=Jz h;simp only[ah.mg,Bool.or_eq_true,beq_iff_eq]at h1;simp only[ah.ku,Bool.and_eq_true,ah.within_iff]at h2;obtain⟨⟨⟨hc,Ge⟩,hid⟩,hr⟩:=h2;unfold ah.m_ at h3;by_cases k1:k=111
 .subst k1
  simp[ah.within_iff]at hr;exact⟨by omega,by omega,by omega,by omega,by omega,by omega,by omega,by omega⟩
 .have e1:(k==111)=false:=by simpa using k1
  rw[e1]at h3 hr;by_cases k2:k=99
  .subst k2
   simp[ah.within_iff]at hr h3;exact⟨by omega,by omega,by omega,by omega,by omega,by omega,by omega,by omega⟩
  .have e2:(k==99)=false:=by simpa using k2
   rw[e2]at h3;simp at h3;exact⟨by omega,by omega,by omega,by omega,by omega,by omega,by omega,by omega⟩
end Go.Proofs.YtjolccidheflpaaGreatDoor
