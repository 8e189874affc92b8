/- What each call of package wire's checks does, for every request: the walks of within, isItem, isKind, isBounded, isShaped and Check. -/
import Derived.Test.YtjolccidheflpaaGreatDoorX00
import GoSem.PinnedTables
import Derived.JoinedTies
import Derived.WalkSpells
import Derived.WalkLawsBesides
import Derived.Deep.Light
namespace Go.Proofs.YtjolccidheflpaaGreatDoor
open Go.Proofs.Tryz
set_option maxHeartbeats 8000000
set_option maxRecDepth 100000
section
open Go.RowKit
theorem jg{a b:Bool}(h:a=b):Ending.returned (.bool a)=.returned (.bool b):=by rw[h]
theorem xj{k:IntKind}{a b:Int}(h:a=b):Ending.returned (.int k a)=.returned (.int k b):=by rw[h]
theorem ib(x lo hi:Int)(w:World):
  Calls prog 160 #[Z x,Z lo,Z hi] w fun e w'=>e=.returned (.bool (ah.aK x lo hi))/\w'=w:=by
 by_cases h:lo<=x
 .go_enter func160,ntmps160
  go_wp2;go_ret;exact⟨jg (by simp[ah.aK,h]),rfl⟩
 .have h':decide (lo<=x)=false:=by simpa using h
  go_enter func160,ntmps160;go_wp2;go_ret;exact⟨jg (by simp[ah.aK,h']),rfl⟩
theorem xu(n:Int)(w:World):Calls prog 97 #[Z n] w fun e w'=>e=.returned (.bool (ah.aK n 0 5))/\w'=w:=by
 go_enter func97,ntmps97
 go_wp2_with fail
 refine(ib n 0 5 w).mono ?_;rintro e w2 ⟨rfl,rfl⟩;simp only[];go_wp2;go_ret;exact⟨rfl,rfl⟩
theorem adU(n:Int)(w:World):
  Calls prog 236 #[Z n] w fun e w'=>e=.returned (.bool (ah.aK n 0 2))/\w'=w:=by
 go_enter func236,ntmps236
 go_wp2_with (go_at_call 160;refine(ib _ _ _ _).mono ?_;rintro e w' ⟨rfl,rfl⟩)
 go_ret;exact⟨rfl,rfl⟩
theorem Fj(k:Int)(w:World):
  Calls prog 201 #[.int .u8 k] w fun e w'=>e=.returned (.bool (ah.ny k))/\w'=w:=by
 go_enter func201,ntmps201;go_wp2
 all_goals go_ret
 all_goals simp[ah.ny, *]
theorem R5(k c sq it sd pr q id:Int)(w:World):
  Calls prog 203 #[.agg #[.int .u8 k,Z c,Z sq,Z it,Z sd,Z pr,Z q,Z id]] w fun e w'=>e=.returned (.bool (ah.ot k it sd pr q id))/\U w w':=by
 go_enter func203,ntmps203;go_wp2
 all_goals go_ret
 all_goals
  refine⟨jg ?_,aj⟩
  go_light
  simp[ah.ot, *]
theorem JO(k c sq it sd pr q id:Int)(w:World):
  Calls prog 202 #[.agg #[.int .u8 k,Z c,Z sq,Z it,Z sd,Z pr,Z q,Z id]] w fun e w'=>e=.returned (.bool (ah.kF k c sq it sd pr q id))/\U w w':=by
 go_enter func202,ntmps202
 go_wp2_with (first | (go_at_call 97;refine(xu _ _).mono ?_;rintro e w' ⟨rfl,rfl⟩) | (go_at_call 160;refine(ib _ _ _ _).mono ?_;rintro e w' ⟨rfl,rfl⟩) | (go_at_call 236;refine(adU _ _).mono ?_;rintro e w' ⟨rfl,rfl⟩))
 all_goals go_ret
 all_goals
  refine⟨jg ?_,aj⟩
  go_light
  simp_all[ah.kF]
theorem BJ{W w1:World}(hb:U W w1):(∀b o,b<W.heap.size->w1.cell? (O b o)=W.cell? (O b o))/\(∀b o,b<W.heap.size->w1.frozen? (O b o)=W.frozen? (O b o)) :=
 ⟨fun b o h=>hb.cell (p:=(O b o)) h,fun b o h=>hb.frozen (p:=(O b o)) h⟩
theorem JQ(k c sq it sd pr q id:Int)(v3:Value)(w:World)(hz:4<w.heap.size)(h3:w.cell? (O 4 0)=some v3)(hk:ah.ny k=false):
  Calls prog 151 #[.agg #[.int .u8 k,Z c,Z sq,Z it,Z sd,Z pr,Z q,Z id]] w fun e w'=>e=.returned v3/\U w w':=by
 go_enter func151,ntmps151
 go_wp2_with fail
 refine(Fj _ _).mono ?_;rintro e w1 ⟨rfl,rfl⟩;go_wp2;go_ret;exact⟨rfl,aj⟩
theorem JR(k c sq it sd pr q id:Int)(v1:Value)(w:World)(hz:1<w.heap.size)(h3:w.cell? (O 1 0)=some v1)(hk:ah.ny k=true)(hbd:ah.kF k c sq it sd pr q id=false):
  Calls prog 151 #[.agg #[.int .u8 k,Z c,Z sq,Z it,Z sd,Z pr,Z q,Z id]] w fun e w'=>e=.returned v1/\U w w':=by
 go_enter func151,ntmps151
 go_wp2_with fail
 refine(Fj _ _).mono ?_;rintro e w1 ⟨rfl,rfl⟩
 go_wp2_with fail
 refine(JO _ _ _ _ _ _ _ _ _).mono ?_;rintro e w1 ⟨rfl,hb1⟩;obtain⟨hc1,Fp⟩:=BJ hb1;have hz1:w.heap.size<w1.heap.size:=by have:=hb1.size;simp at this;omega
 have qm:U w w1:=aj.trans (hb1.mono (by simp));have hg1:=(qm.cell (p:=(O 1 0)) hz).trans h3;go_wp2;go_ret;exact⟨rfl,aj.trans (hb1.mono (by simp))⟩
theorem JU(k c sq it sd pr q id:Int)(v2:Value)(w:World)(hz:3<w.heap.size)(h3:w.cell? (O 3 0)=some v2)(hk:ah.ny k=true)(hbd:ah.kF k c sq it sd pr q id=true)(hsh:ah.ot k it sd pr q id=false):
  Calls prog 151 #[.agg #[.int .u8 k,Z c,Z sq,Z it,Z sd,Z pr,Z q,Z id]] w fun e w'=>e=.returned v2/\U w w':=by
 go_enter func151,ntmps151
 go_wp2_with fail
 refine(Fj _ _).mono ?_;rintro e w1 ⟨rfl,rfl⟩
 go_wp2_with fail
 refine(JO _ _ _ _ _ _ _ _ _).mono ?_;rintro e w1 ⟨rfl,hb1⟩;obtain⟨hc1,Fp⟩:=BJ hb1;have hz1:w.heap.size<w1.heap.size:=by have:=hb1.size;simp at this;omega
 have qm:U w w1:=aj.trans (hb1.mono (by simp));have hg1:=(qm.cell (p:=(O 3 0)) hz).trans h3
 go_wp2_with fail
 refine(R5 _ _ _ _ _ _ _ _ _).mono ?_;rintro e w2 ⟨rfl,hb2⟩;obtain⟨hc2,hf2⟩:=BJ hb2;have hg2:=(hb2.cell (p:=(O 3 0)) (by simp;omega)).trans hg1;go_wp2;go_ret;exact⟨rfl,(aj.trans (hb1.mono (by simp))).trans (hb2.mono (by omega))⟩
theorem Fq(k c sq it sd pr q id:Int)(w:World)(hk:ah.ny k=true)(hbd:ah.kF k c sq it sd pr q id=true)(hsh:ah.ot k it sd pr q id=true):
  Calls prog 151 #[.agg #[.int .u8 k,Z c,Z sq,Z it,Z sd,Z pr,Z q,Z id]] w fun e w'=>e=.returned .nilIface/\U w w':=by
 go_enter func151,ntmps151
 go_wp2_with fail
 refine(Fj _ _).mono ?_;rintro e w1 ⟨rfl,rfl⟩
 go_wp2_with fail
 refine(JO _ _ _ _ _ _ _ _ _).mono ?_;rintro e w1 ⟨rfl,hb1⟩;obtain⟨hc1,Fp⟩:=BJ hb1;have hz1:w.heap.size<w1.heap.size:=by have:=hb1.size;simp at this;omega
 go_wp2_with fail
 refine(R5 _ _ _ _ _ _ _ _ _).mono ?_;rintro e w2 ⟨rfl,hb2⟩;obtain⟨hc2,hf2⟩:=BJ hb2;go_wp2;go_ret;exact⟨rfl,(aj.trans (hb1.mono (by simp))).trans (hb2.mono (by omega))⟩
theorem Y{p:Prop}(h:p):Hid p:=h
theorem xB(s:ByteArray)(k:Nat)(h:k<s.size):s.data.toList.take (k+1)=s.data.toList.take k++[s[k]]:=by rw[List.take_succ_eq_append_getElem (by simpa using h)];rfl
theorem and_one(z:Nat)(hz:z<4294967296):bits .and .u32 (z:Int) 1=((z%2:Nat):Int):=by rw[show (1:Int)=((1:Nat):Int) from rfl,u32_and_nat z 1 hz (by decide),Nat.and_one_is_mod]
theorem an5(z:Nat)(hz:z<4294967296)(h:(bits .and .u32 (z:Int) 1==1)=true):bits .xor .u32 ((z:Int)/2) 3988292384=(ah.bit z:Int):=by
 rw[and_one z hz,beq_iff_eq]at h;have h2:z%2=1:=by omega
 rw[show ((z:Int)/2)=((z/2:Nat):Int) from by omega,show (3988292384:Int)=((3988292384:Nat):Int) from rfl,u32_xor_nat (z/2) 3988292384 (by omega) (by decide)];simp[ah.bit,h2]
theorem an6(z:Nat)(hz:z<4294967296)(h:(bits .and .u32 (z:Int) 1==1)=false):((z:Int)/2)=(ah.bit z:Int):=by
 rw[and_one z hz,beq_eq_false_iff_ne]at h;have h2:¬ z%2=1:=by omega
 simp[ah.bit,h2]
theorem IZ{k:IntKind}{a b:Int}(h:a=b):Value.int k a=.int k b:=by rw[h]
theorem vt(s:ByteArray)(w:World)(hs:s.size<=maxLen):
  Calls prog 149 #[.string s] w fun e w'=>e=.returned (.int .u32 (ah.sum s.data.toList))/\w'=w:=by
 unfold maxLen at hs;go_enter func149,ntmps149;go_wp2
 go_loop [3,8] (fun n i=>∃k:Nat,k<=s.size/\i=Z k/\n=.int .u32 (ah.run (s.data.toList.take k) 4294967295)) (fun _ i=>s.size-(intOf i).toNat)
 case atStart=>exact⟨0,Nat.zero_le _,rfl,rfl⟩
 case round =>
  obtain⟨k,hk,rfl,rfl⟩:=hrel;have hr:ah.run (s.data.toList.take k) 4294967295<4294967296:=ah.NL _ (by decide);by_cases hlt:k<s.size
  .have HS:Hid (ah.run (s.data.toList.take (k+1)) 4294967295=ah.byte (ah.run (s.data.toList.take k) 4294967295) s[k].toNat):=by
    rw[xB s k hlt];exact ah.ajv _ _ _
   have hb:s[k].toNat<256:=s[k].toNat_lt;generalize hg:ah.run (s.data.toList.take k) 4294967295=r at *;have auj:=Y hg;clear hg;go_wp2;rw[u32_xor_nat r s[k].toNat hr (by omega)];have hx:r ^^^ s[k].toNat<4294967296:=ah.G5 hr (by omega);generalize hy:r ^^^ s[k].toNat=y at *;have BP:=Y hy;clear hy
   go_loop [3,17] (fun n i=>∃j:Nat,j<=8/\i=Z j/\n=.int .u32 (ah.bits j y)) (fun _ i=>8-(intOf i).toNat)
   case atStart=>exact⟨0,Nat.zero_le _,rfl,rfl⟩
   case round =>
    obtain⟨j,hj,rfl,rfl⟩:=hrel;have oW:ah.bits j y<4294967296:=ah.NK j hx;have HB:=Y (ah.Xb j y);generalize hz:ah.bits j y=z at *;have an7:=Y hz;clear hz;by_cases auk:j<8
    .go_wp2
     .exact⟨⟨j+1,by omega,by go_num,IZ (by rw[HB.out];exact an5 z oW ‹_›)⟩,by simp[intOf];omega⟩
     .exact⟨⟨j+1,by omega,by go_num,IZ (by rw[HB.out];exact an6 z oW ‹_›)⟩,by simp[intOf];omega⟩
    .go_wp2
     have j8:j=8:=by omega
     exact⟨⟨k+1,by omega,by go_num,IZ (by rw[HS.out,ah.byte,BP.out,<- an7.out,j8])⟩,by simp[intOf];omega⟩
  .go_wp2
   go_ret;exact⟨xj (by rw[show IntKind.u32.max=((4294967295:Nat):Int) from rfl,u32_xor_nat _ _ (by decide) hr,List.take_of_length_le (by simp;omega),Nat.xor_comm];rfl),rfl⟩
def Row(w:World)(base:Nat)(v:Value)(xs:List Int):Prop:=w.ownsRow base 5 1 v xs.length (xs.map (Value.int .u8))
theorem info5:∃i,prog.info? 5=some i/\i.zero=some (.int .u8 0)/\i.size=1/\i.bytes=1:=⟨_,rfl,rfl,rfl,rfl⟩
theorem Kg(v:Value)(xs:List Int)(x:Int)(base:Nat)(w:World)(hown:Row w base v xs)(hn:xs.length<=100000)(hbase:base<=w.heap.size):
  Calls prog 183 #[v,.int .u32 x] w fun e w'=>∃v',e=.returned v'/\Row w' base v' (xs++[x/16777216%256,x/65536%256,x/256%256,x%256])/\Below base w w':=by
 obtain⟨i5,hi,hz0,hz1,hz2⟩:=info5;have Hi:=Y hi;have fe:=Y hz0;have fg:=Y hz1;have fh:=Y hz2;clear hi hz0 hz1 hz2;have BX:Hid (Row w base v xs):=hown;clear hown;go_enter func183,ntmps183
 go_wp2_with (at_builtin;refine wpList_append_own _ rfl _ _ 115 rfl base 5 i5 (.int .u8 0) 1 1 underlying115 Hi fe fg fh rfl (by decide) _ _ _ rfl (World.ownsRow.alloc BX _) (O w.heap.size 0) 4 4 ([x/16777216%256,x/65536%256,x/256%256,x%256].map (Value.int .u8)) rfl rfl ?c1 ?c2 ?c3 ?c4 ?c5 ?_)
 case c1 =>
  intro j u hj
  match j,hj with
  | 0,hj=>simp at hj;subst hj;simp[Addr.add]
  | 1,hj=>simp at hj;subst hj;simp[Addr.add]
  | 2,hj=>simp at hj;subst hj;simp[Addr.add]
  | 3,hj=>simp at hj;subst hj;simp[Addr.add]
 case c2=>intro u hu;simp at hu;rcases hu with rfl | rfl | rfl | rfl <;> rfl
 case c3=>unfold maxLen;omega
 case c4=>omega
 case c5=>simp;omega
 intro v' w2 hown' hgrow _;have HO:=Y hown';have HG:=Y hgrow;clear hown' hgrow;go_wp2;go_ret;refine⟨v',rfl,?_,?_⟩
 .have:=HO.out
  unfold Row;simpa using this
 .exact((bRq _ _).alloc hbase _).grown HG (by simp;omega) (fun k hk=>(World.ownsRow.lt BX k hk).1)
theorem FD(v:Value)(xs:List Int)(x:Int)(base:Nat)(w:World)(hown:Row w base v xs)(hn:xs.length<=100000)(hbase:base<=w.heap.size):
  Calls prog 183 #[v,.int .u32 (x%4294967296)] w fun e w'=>∃v',e=.returned v'/\Row w' base v' (xs++[x/16777216%256,x/65536%256,x/256%256,x%256])/\Below base w w':=by
 have h:=Kg v xs (x%4294967296) base w hown hn hbase;rw[show x%4294967296/16777216%256=x/16777216%256 by omega,show x%4294967296/65536%256=x/65536%256 by omega,show x%4294967296/256%256=x/256%256 by omega,show x%4294967296%256=x%256 by omega]at h;exact h
theorem S9(v:Value)(xs:List Int)(x:Int)(base:Nat)(w:World)(hown:Row w base v xs)(hn:xs.length<=100000)(hbase:base<=w.heap.size):
  Calls prog 184 #[v,.int .u32 x] w fun e w'=>∃v',e=.returned v'/\Row w' base v' (xs++[x%256,x/256%256,x/65536%256,x/16777216%256])/\Below base w w':=by
 obtain⟨i5,hi,hz0,hz1,hz2⟩:=info5;have Hi:=Y hi;have fe:=Y hz0;have fg:=Y hz1;have fh:=Y hz2;clear hi hz0 hz1 hz2;have BX:Hid (Row w base v xs):=hown;clear hown;go_enter func184,ntmps184
 go_wp2_with (at_builtin;refine wpList_append_own _ rfl _ _ 115 rfl base 5 i5 (.int .u8 0) 1 1 underlying115 Hi fe fg fh rfl (by decide) _ _ _ rfl (World.ownsRow.alloc BX _) (O w.heap.size 0) 4 4 ([x%256,x/256%256,x/65536%256,x/16777216%256].map (Value.int .u8)) rfl rfl ?c1 ?c2 ?c3 ?c4 ?c5 ?_)
 case c1 =>
  intro j u hj
  match j,hj with
  | 0,hj=>simp at hj;subst hj;simp[Addr.add]
  | 1,hj=>simp at hj;subst hj;simp[Addr.add]
  | 2,hj=>simp at hj;subst hj;simp[Addr.add]
  | 3,hj=>simp at hj;subst hj;simp[Addr.add]
 case c2=>intro u hu;simp at hu;rcases hu with rfl | rfl | rfl | rfl <;> rfl
 case c3=>unfold maxLen;omega
 case c4=>omega
 case c5=>simp;omega
 intro v' w2 hown' hgrow _;have HO:=Y hown';have HG:=Y hgrow;clear hown' hgrow;go_wp2;go_ret;refine⟨v',rfl,?_,?_⟩
 .have:=HO.out
  unfold Row;simpa using this
 .exact((bRq _ _).alloc hbase _).grown HG (by simp;omega) (fun k hk=>(World.ownsRow.lt BX k hk).1)
theorem FE{w:World}{base:Nat}{v:Value}{xs:List Int}(h:Row w base v xs):(convert 115 9 v).run prog w=.ok (.string (strOfNums xs)) w:=by
 obtain⟨hl,h⟩:=h;rcases h with ⟨rfl,hn⟩ | ⟨g,cap,cur,rfl,hb,hg,hn,hcap,hsz,ht⟩
 .obtain rfl:xs=[]:=by simpa using hn
  exact run_convert_bytes_nil w 115 5 underlying115 underlying5 0 0 9 underlying9
 .refine run_convert_bytes_arg w 115 5 underlying115 underlying5 g 0 xs.length cap xs rfl ?_ 9 underlying9
  intro i hi
  have:=World.ownsRow.cells (w:=w) (base:=base) (e:=5) (size:=1) (v:=.slice (some (O g 0)) xs.length cap) (n:=xs.length) (xs:=xs.map (Value.int .u8)) ⟨hl,.inr ⟨g,cap,cur,rfl,hb,hg,hn,hcap,hsz,ht⟩⟩ (g:=g) rfl i (.int .u8 (xs.getD i 0)) (by simp[hi])
  have hp:(⟨g,0,none⟩:Addr).add i=⟨g,0+i,none⟩:=by unfold Addr.add;split <;> simp_all
  rwa [hp]at this
theorem vu{w w1 wi:World}{C:Array Value}(hb1:Below (w.alloc (.cells C 95)).heap.size (w.alloc (.cells C 95)) w1)(hB:U w1 wi)(j:Nat):wi.cell? (O w.heap.size j)=C[j]?:=by
 have hs:w.heap.size<(w.alloc (.cells C 95)).heap.size:=by simp
 have hs1:w.heap.size<w1.heap.size:=Nat.lt_of_lt_of_le hs hb1.size;rw[hB.cell (p:=(O w.heap.size j)) hs1,hb1.cell (p:=(O w.heap.size j)) hs];simp
def ah.high(x:Int):List Int:=[x/16777216%256,x/65536%256,x/256%256,x%256]
def ah.low(x:Int):List Int:=[x%256,x/256%256,x/65536%256,x/16777216%256]
def ah.body(k c sq it sd pr q id:Int):List Int :=
 (((((([k,c%256]++ah.high sq)++[it%256,sd%256])++ah.high pr)++ah.high q)++ah.high id)++[0,0,0,0,0,0])
def ah.frame(k c sq it sd pr q id:Int):List Int :=
 ah.body k c sq it sd pr q id++ah.low (ah.sum (strOfNums (ah.body k c sq it sd pr q id)).data.toList)
theorem ae0(k c sq it sd pr q id:Int)(w:World)(hk:ah.ny k=true)(hbd:ah.kF k c sq it sd pr q id=true)(hsh:ah.ot k it sd pr q id=true):
  Calls prog 138 #[.agg #[.int .u8 k,Z c,Z sq,Z it,Z sd,Z pr,Z q,Z id]] w fun e w'=>e=.returned (.tuple #[.string (strOfNums (ah.frame k c sq it sd pr q id)),.nilIface])/\U w w':=by
 obtain⟨i5,hi,hz0,hz1,hz2⟩:=info5;have Hi:=Y hi;have fe:=Y hz0;have fg:=Y hz1;have fh:=Y hz2;clear hi hz0 hz1 hz2;have ay:∀w,(Instr.makeSlice 115 (Z 0) (Z 30)).run prog w=.ok (.slice (some (O w.heap.size 0)) 0 30) (w.alloc (.cells #[.int .u8 0,.int .u8 0,.int .u8 0,.int .u8 0,.int .u8 0,.int .u8 0,.int .u8 0,.int .u8 0,.int .u8 0,.int .u8 0,.int .u8 0,.int .u8 0,.int .u8 0,.int .u8 0,.int .u8 0,.int .u8 0,.int .u8 0,.int .u8 0,.int .u8 0,.int .u8 0,.int .u8 0,.int .u8 0,.int .u8 0,.int .u8 0,.int .u8 0,.int .u8 0,.int .u8 0,.int .u8 0,.int .u8 0,.int .u8 0] 5)):=fun _=>by kernel_rfl
 go_enter func138,ntmps138
 go_wp2_with fail
 refine(Fq _ _ _ _ _ _ _ _ _ hk hbd hsh).mono ?_;rintro e w1 ⟨rfl,hb1⟩;have hz1:w.heap.size<w1.heap.size:=by have:=hb1.size;simp at this;omega
 have hc0:w1.cell? (O w.heap.size 0)=some (.int .u8 k):=vu hb1 (bRq _ _) 0;have hc1:w1.cell? (O w.heap.size 1)=some (Z c):=vu hb1 (bRq _ _) 1;have Hb1:=Y hb1;clear hb1;have gi:Hid (Row (w1.alloc (.cells #[.int .u8 0,.int .u8 0,.int .u8 0,.int .u8 0,.int .u8 0,.int .u8 0,.int .u8 0,.int .u8 0,.int .u8 0,.int .u8 0,.int .u8 0,.int .u8 0,.int .u8 0,.int .u8 0,.int .u8 0,.int .u8 0,.int .u8 0,.int .u8 0,.int .u8 0,.int .u8 0,.int .u8 0,.int .u8 0,.int .u8 0,.int .u8 0,.int .u8 0,.int .u8 0,.int .u8 0,.int .u8 0,.int .u8 0,.int .u8 0] 5)) w1.heap.size (.slice (some (O w1.heap.size 0)) 0 30) []):=World.ownsRow_made w1 _ 30 (E _) (by decide) rfl
 go_wp2_with (at_builtin;refine wpList_append_own _ rfl _ _ 115 rfl w1.heap.size 5 i5 (.int .u8 0) 1 1 underlying115 Hi fe fg fh rfl (by decide) _ _ _ rfl (World.ownsRow.alloc gi _) ⟨w1.heap.size+1,0,none⟩ 2 2 ([k,c%256].map (Value.int .u8)) rfl rfl ?c1 ?c2 ?c3 ?c4 ?c5 ?_)
 case c1 =>
  intro j u hj
  match j,hj with
  | 0,hj=>simp at hj;subst hj;simp[Addr.add]
  | 1,hj=>simp at hj;subst hj;simp[Addr.add]
 case c2=>intro u hu;simp at hu;rcases hu with rfl | rfl <;> rfl
 case c3=>unfold maxLen;simp
 case c4=>simp
 case c5=>simp;omega
 intro v2 w2 hown' hgrow _;have b_:Hid (Row w2 w1.heap.size v2 [k,c%256]):=hown';have HB2:Hid (U w1 w2):=((aj.alloc (by simp) _).grown hgrow (by simp;omega) (fun k hk=>(World.ownsRow.lt gi k hk).1));clear hown' hgrow;have hc2:w2.cell? (O w.heap.size 2)=some (Z sq):=vu Hb1 HB2 2
 go_wp2_with fail
 refine(FD v2 _ _ w1.heap.size w2 b_ (by simp) HB2.size).mono ?_;rintro e w3 ⟨v3,rfl,hr3,hb3⟩;have HR3:Hid (Row w3 w1.heap.size v3 ([k,c%256]++ah.high sq)):=hr3;have av:Hid (U w1 w3):=HB2.trans hb3;clear hr3 hb3;have asV:w3.cell? (O w.heap.size 3)=some (Z it):=vu Hb1 av 3;have asW:w3.cell? (O w.heap.size 4)=some (Z sd):=vu Hb1 av 4
 go_wp2_with (at_builtin;refine wpList_append_own _ rfl _ _ 115 rfl w1.heap.size 5 i5 (.int .u8 0) 1 1 underlying115 Hi fe fg fh rfl (by decide) _ _ _ rfl (World.ownsRow.alloc HR3 _) (O w3.heap.size 0) 2 2 ([it%256,sd%256].map (Value.int .u8)) rfl rfl ?c1 ?c2 ?c3 ?c4 ?c5 ?_)
 case c1 =>
  intro j u hj
  match j,hj with
  | 0,hj=>simp at hj;subst hj;simp[Addr.add]
  | 1,hj=>simp at hj;subst hj;simp[Addr.add]
 case c2=>intro u hu;simp at hu;rcases hu with rfl | rfl <;> rfl
 case c3=>unfold maxLen;simp[ah.high]
 case c4=>simp[ah.high]
 case c5=>have:=av.size;simp;omega
 intro v4 w4 hown' hgrow _;have cO:Hid (Row w4 w1.heap.size v4 (([k,c%256]++ah.high sq)++[it%256,sd%256])):=hown';have bS:Hid (U w1 w4):=(av.alloc av.size _).grown hgrow (by have:=av.size;simp;omega) (fun k hk=>(World.ownsRow.lt HR3 k hk).1);clear hown' hgrow;have asX:w4.cell? (O w.heap.size 5)=some (Z pr):=vu Hb1 bS 5
 go_wp2_with fail
 refine(FD v4 _ _ w1.heap.size w4 cO (by simp[ah.high]) bS.size).mono ?_;rintro e aI ⟨v5,rfl,fI,bR⟩;have bE:Hid (Row aI w1.heap.size v5 ((([k,c%256]++ah.high sq)++[it%256,sd%256])++ah.high pr)):=fI;have cr:Hid (U w1 aI):=bS.trans bR;clear fI bR;have asY:aI.cell? (O w.heap.size 6)=some (Z q):=vu Hb1 cr 6
 go_wp2_with fail
 refine(FD v5 _ _ w1.heap.size aI bE (by simp[ah.high]) cr.size).mono ?_;rintro e aA ⟨v6,rfl,fB,hb6⟩;have bT:Hid (Row aA w1.heap.size v6 (((([k,c%256]++ah.high sq)++[it%256,sd%256])++ah.high pr)++ah.high q)):=fB;have bk:Hid (U w1 aA):=cr.trans hb6;clear fB hb6;have asZ:aA.cell? (O w.heap.size 7)=some (Z id):=vu Hb1 bk 7
 go_wp2_with fail
 refine(FD v6 _ _ w1.heap.size aA bT (by simp[ah.high]) bk.size).mono ?_;rintro e dH ⟨v7,rfl,vv,lQ⟩;have ew:Hid (Row dH w1.heap.size v7 ((((([k,c%256]++ah.high sq)++[it%256,sd%256])++ah.high pr)++ah.high q)++ah.high id)):=vv;have ic:Hid (U w1 dH):=bk.trans lQ;clear vv lQ
 go_wp2_with (at_builtin;refine Lib.wpList_append_own_string _ rfl _ _ 115 9 rfl w1.heap.size 5 i5 underlying115 underlying9 Hi fe fg fh _ _ _ rfl ew ⟨#[0,0,0,0,0,0]⟩ rfl ?c3 ?c4 ?c5 ?_)
 case c3=>unfold maxLen;simp[ah.high,ByteArray.size]
 case c4=>simp[ah.high,ByteArray.size]
 case c5=>exact ic.size
 intro v8 fJ hown' hgrow _;have xz:Hid (Row fJ w1.heap.size v8 (ah.body k c sq it sd pr q id)):=hown';have kh:Hid (U w1 fJ):=ic.grown hgrow ic.size (fun k hk=>(World.ownsRow.lt ew k hk).1);clear hown' hgrow;have hcv:=FE xz
 go_wp2_with fail
 refine(vt _ _ (by unfold maxLen;simp[strOfNums,ah.body,ah.high,ByteArray.size])).mono ?_;rintro e jP ⟨rfl,rfl⟩
 go_wp2_with fail
 refine(S9 v8 _ _ w1.heap.size _ xz (by simp[ah.body,ah.high]) kh.size).mono ?_;rintro e S_ ⟨v10,rfl,BZ,Ta⟩;have Kh:Hid (Row S_ w1.heap.size v10 (ah.frame k c sq it sd pr q id)):=BZ;have zF:Hid (U w1 S_):=kh.trans Ta;clear BZ Ta hcv;have as0:=FE Kh;go_wp2;go_ret2;refine⟨rfl,?_⟩;exact(aj.trans (Hb1.mono (by simp))).trans (zF.mono (Nat.le_of_lt hz1))
theorem afk(k c sq it sd pr q id:Int)(T:TypeId)(x:Value)(w:World)(BS:Hid (∀o,Calls prog 151 #[.agg #[.int .u8 k,Z c,Z sq,Z it,Z sd,Z pr,Z q,Z id]] (w.alloc o) fun e w'=>e=.returned (.iface T x)/\Below (w.alloc o).heap.size (w.alloc o) w')):
  Calls prog 138 #[.agg #[.int .u8 k,Z c,Z sq,Z it,Z sd,Z pr,Z q,Z id]] w fun e w'=>e=.returned (.tuple #[.string ⟨#[]⟩,.iface T x])/\U w w':=by
 go_enter func138,ntmps138
 go_wp2_with fail
 refine(BS _).mono ?_;rintro e w1 ⟨rfl,hb1⟩;go_wp2;go_ret2;exact⟨rfl,aj.trans (hb1.mono (by simp))⟩
def eA(w:World)(base:Nat)(v:Value)(xs:List Int):Prop :=
 ∃g cap cur fz,v=.slice (some (O g 0)) xs.length cap/\base<=g/\w.heap[g]?=some (.cells cur 5 fz)/\(∀j,j<cur.size->j<fz.1\/fz.2<=j) /\
  xs.length<=cap/\cap<=maxLen/\cur.size=cap/\cur.toList.take xs.length=xs.map (Value.int .u8)
theorem WA(P:Program)(g o:Nat)(t:TypeId)(fz:Nat×Nat):∀(vs:List Value) (i:Nat) (cur:Array Value) (w:World),w.heap[g]?=some (.cells cur t fz)->(∀j,j<cur.size->j<fz.1\/fz.2<=j)->o+i+vs.length<=cur.size->(∀v∈vs,v.oneCell'=true) ->
  (storeCells (O g o) vs i).run P w=.ok () (w.setRow g (cur.toList.take (o+i)++vs++cur.toList.drop (o+i+vs.length)).toArray)
 | [],i,cur,w,hg,_,_,_=>by
  simp only[storeCells,List.append_nil,List.length_nil,Nat.add_zero,List.take_append_drop,Array.toArray_toList];rw[setRow_self w g cur t fz hg];rfl
 | v::rest,i,cur,w,hg,hfz,hl,h1=>by
  have hi:o+i<cur.size:=by simp at hl;omega
  have zX:(⟨g,o,none⟩:Addr).add i=⟨g,o+i,none⟩:=by unfold Addr.add;split <;> simp_all
  have hcell:w.cell? ⟨g,o+i,none⟩=some cur[o+i]:=by simp[World.cell?,hg,hi]
  have aiY:w.frozen? ⟨g,o+i,none⟩=false:=by
   have:=hfz (o+i) hi
   obtain⟨lo,hi'⟩:=fz;simp only[World.frozen?,hg,Bool.and_eq_false_iff,decide_eq_false_iff_not];simp only at this;omega
  have hst:(store ((⟨g,o,none⟩:Addr).add i) v).run P w=.ok () (w.setRow g (cur.setIfInBounds (o+i) v)):=by rw[zX,run_store P w _ v _ (h1 v (by simp)),hcell];simp[aiY,setCell_eq_setRow w g (o+i) cur t fz v hg]
  have ih:=WA P g o t fz rest (i+1) (cur.setIfInBounds (o+i) v) (w.setRow g (cur.setIfInBounds (o+i) v)) (setRow_heap w g cur _ t _ hg) (by simpa using hfz) (by simp at hl ⊢;omega) (fun x hx=>h1 x (by simp[hx]));simp only[storeCells,Sem.run_bind,hst,Result.andThen_ok,ih,setRow_setRow];congr 3;have e:=list_seg_step cur.toList (o+i) v rest (by simp at hl ⊢;omega);simpa [Array.toList_setIfInBounds,Nat.add_assoc] using e
theorem eA.cells{w:World}{base g len cap:Nat}{xs:List Int}(h:eA w base (.slice (some (O g 0)) len cap) xs):∀j u,(xs.map (Value.int .u8))[j]?=some u->w.cell? ((⟨g,0,none⟩:Addr).add j)=some u:=by
 intro j u hu;obtain⟨g',cap',cur,fz,hv,_,hg,_,_,_,_,ht⟩:=h;simp only[Value.slice.injEq,Option.some.injEq,Addr.mk.injEq,and_true]at hv;obtain⟨rfl,rfl,rfl⟩:=hv;have zX:(⟨g,0,none⟩:Addr).add j=(O g j):=by unfold Addr.add;split <;> simp_all
 rw[zX,cR w g j cur 5 fz hg];rw[<- ht,List.getElem?_take]at hu;split at hu
 .simpa using hu
 .cases hu
theorem aiZ(w:World)(base:Nat)(ty:TypeId)(v:Value)(xs:List Int)(hown:eA w base v xs)(a:Addr)(m c:Nat)(ys:List Int)(hl:ys.length=m)(hnews:∀j u,(ys.map (Value.int .u8))[j]?=some u->w.cell? (a.add j)=some u)(hsz:xs.length+m<=10000000)(hbase:base<=w.heap.size):
  ∃v' w',(Builtin.append_ #[115,115] ty #[v,.slice (some a) m c]).run prog w=.ok v' w'/\eA w' base v' (xs++ys)/\w.grownBy w' v.ownBlock/\(∀k,v'.ownBlock=some k->v.ownBlock=some k\/w.heap.size<=k):=by
 obtain⟨i,hi,hz,hz1,hz2⟩:=info5;obtain⟨g,cap,cur,fz,rfl,hbg,hg,hfz,hnc,hcm,hcs,ht⟩:=id hown;have h1:∀u∈ys.map (Value.int .u8),u.oneCell'=true:=fun u hu=>by obtain⟨_,_,rfl⟩:=List.mem_map.1 hu;rfl
 have hl':(ys.map (Value.int .u8)).length=m*i.size:=by rw[hz1];simpa using hl
 have hlen:(xs++ys).length=xs.length+m:=by simp[hl]
 by_cases hroom:xs.length+m<=cap
 .have hf:=run_firstCells_some (P:=prog) w i.size m a m c _ hl' hnews
  have hst:=WA prog g (xs.length*i.size) 5 fz (ys.map (Value.int .u8)) 0 cur w hg hfz (by rw[hz1];simp[hl];omega) h1;rw[hz1]at hf;simp only[hz1,Nat.mul_one,Nat.add_zero]at hst;refine⟨_,_,by simp[Builtin.append_,run_underlying underlying115,sizeOf,typeInfo,hi,hz1,Builtin.lenOf,hroom,hf,Addr.add_lit,hst];exact⟨rfl,rfl⟩,⟨g,cap,_,fz,by rw[hlen],hbg,setRow_heap w g cur _ 5 _ hg,?_,by omega,hcm,?_,?_⟩,⟨rfl,rfl,rfl,by simp,fun k _ hk=>setRow_other w g k _ (fun e=>hk (by simp[Value.ownBlock,e]))⟩,fun k hk=>.inl (by simpa [Value.ownBlock] using hk)⟩
  .intro j hj
   refine hfz j ?_;simp only[List.size_toArray,List.length_append,List.length_take,List.length_drop,Array.length_toList,List.length_map]at hj;omega
  .simp only[List.size_toArray,List.length_append,List.length_take,List.length_drop,Array.length_toList,List.length_map]
   omega
  .simp only[]
   rw[ht,<- aAq,List.map_append,hlen,show xs.length+m=(xs.map (Value.int .u8)++ys.map (Value.int .u8)).length by simp[hl]];exact List.take_left
 .have holds:=eA.cells hown
  have hr:=run_append_grow (P:=prog) w 115 ty 5 i _ underlying115 hi hz (O g 0) xs.length cap (xs.map (Value.int .u8)) (by rw[hz1];simp) holds a m c _ hl' hnews (by omega) (by omega) (growslice_fits (by omega) (by rw[hz2];omega));have mf:=grownCap_ge w (xs.length+m) cap 5;refine⟨_,_,hr,⟨w.heap.size,_,_,(0,0),by rw[hlen],hbase,hNq w.drew _,fun j _=>.inr (Nat.zero_le _),by omega,grownCap_le_maxLen w (xs.length+m) cap 5 (by unfold maxLen;omega),?_,?_⟩,⟨rfl,rfl,rfl,by simp,fun k hk _=>heap_alloc_old w.drew _ hk⟩,fun k hk=>.inr (by simp[Value.ownBlock]at hk;omega)⟩
  .simp only[Array.size_append,List.size_toArray,size_zeroCells,List.length_map,hl]
   simp[Value.cells];omega
  .simp only[Array.toList_append,List.append_assoc]
   rw[<- aAq,List.map_append,hlen,show xs.length+m=(xs.map (Value.int .u8)++ys.map (Value.int .u8)).length by simp[hl]];exact List.take_left
theorem eA.lt{w:World}{base:Nat}{v:Value}{xs:List Int}(h:eA w base v xs):∀k,v.ownBlock=some k->base<=k/\k<w.heap.size:=by
 obtain⟨g,cap,cur,fz,rfl,hbg,hg,_⟩:=h;intro k hk;obtain rfl:g=k:=by simpa [Value.ownBlock] using hk
 exact⟨hbg,(Array.getElem?_eq_some_iff.1 hg).1⟩
theorem ai0{w:World}{base:Nat}{v:Value}{xs:List Int}(h:eA w base v xs):(convert 115 9 v).run prog w=.ok (.string (strOfNums xs)) w:=by
 obtain⟨g,cap,cur,fz,rfl,hbg,hg,hfz,hnc,hcm,hcs,ht⟩:=id h;refine run_convert_bytes_arg w 115 5 underlying115 underlying5 g 0 xs.length cap xs rfl ?_ 9 underlying9;intro i hi
 have:=eA.cells h i (.int .u8 (xs.getD i 0)) (by simp[hi])
 have hp:(⟨g,0,none⟩:Addr).add i=⟨g,0+i,none⟩:=by unfold Addr.add;split <;> simp_all
 rwa [hp]at this
theorem eA.take{w:World}{base g len cap:Nat}{xs:List Int}(h:eA w base (.slice (some (O g 0)) len cap) xs)(n:Nat)(hn:n<=xs.length):eA w base (.slice (some (O g 0)) n cap) (xs.take n):=by
 obtain⟨g',cap',cur,fz,h2,hb,hg,hz,hc,hm,hs,ht⟩:=h;simp only[Value.slice.injEq,Option.some.injEq,Addr.mk.injEq,and_true]at h2;obtain⟨rfl,rfl,rfl⟩:=h2;have hl:(xs.take n).length=n:=by simp;omega
 refine⟨g,cap,cur,fz,by rw[hl],hb,hg,hz,by rw[hl];omega,hm,hs,?_⟩;rw[hl,List.map_take,<- ht,List.take_take];congr 1;omega
theorem ai1(w:World)(s:ByteArray)(hs:s.size<=100000):∃v w',(convert 9 115 (.string s)).run prog w=.ok v w'/\eA w' w.heap.size v (s.data.toList.map fun b=>(b.toNat:Int))/\U w w':=by
 have hr:=run_bytes_of_string (P:=prog) w 9 115 5 s underlying9 underlying115 underlying5;have mf:=grownCap_ge w s.size 0 5;have hsl:s.data.toList.length=s.size:=by rw[Array.length_toList];rfl
 refine⟨_,_,hr,⟨w.heap.size,_,_,_,by rw[List.length_map,hsl],E _,hNq w.drew _,fun j hj=>.inl hj,by rw[List.length_map,hsl];exact mf,grownCap_le_maxLen w s.size 0 5 (by unfold maxLen;omega),?_,?_⟩,?_⟩
 .have:s.data.size=s.size:=rfl
  simp only[bytesRow,Array.size_append,Array.size_map,Array.size_replicate];omega
 .simp only[bytesRow,Array.toList_append,Array.toList_map,List.length_map,List.map_map]
  rw[List.take_left' (by simp)];rfl
 .exact⟨rfl,rfl,rfl,by simp,fun k hk=>heap_alloc_old w.drew _ hk⟩
def ints(l:List UInt8):List Int:=l.map fun b=>(b.toNat:Int)
def ba(l:List UInt8):ByteArray:=⟨l.toArray⟩
theorem jH(l:List UInt8):(ints l).length=l.length:=by simp[ints]
theorem PY(a b:List UInt8):ints (a++b)=ints a++ints b:=by simp[ints]
theorem aai(l:List UInt8)(n:Nat):ints (l.take n)=(ints l).take n:=by simp[ints]
theorem aoh(l:List UInt8):strOfNums (ints l)=ba l:=by
 apply ByteArray.ext;simp only[strOfNums,ints,ba,List.map_map];congr 1
 conv=>rhs;rw[<- List.map_id l]
 exact List.map_congr_left fun b _=>by simp
theorem aof(s:ByteArray):Lib.strCells s=(ints s.data.toList).map (Value.int .u8):=by simp[Lib.strCells,ints]
theorem aaj(l:List UInt8):(ba l).data.toList=l:=by simp[ba]
theorem P0(l:List UInt8):(ba l).size=l.length:=by simp[ba,ByteArray.size]
theorem rh(s:ByteArray):s.data.toList.length=s.size:=by rw[Array.length_toList];rfl
theorem aag(n:Nat):ints (bL.four n)=[(n:Int)/16777216%256,(n:Int)/65536%256,(n:Int)/256%256,(n:Int)%256]:=by simp[ints,bL.four]
theorem aog(n:Nat):ints (bL.low n)=[(n:Int)%256,(n:Int)/256%256,(n:Int)/65536%256,(n:Int)/16777216%256]:=by simp[ints,bL.low]
def Strs(w:World)(base:Nat)(v:Value)(ts:List (List UInt8)):Prop:=w.ownsRow base 9 1 v ts.length (ts.map fun t=>Value.string (ba t))
def aak(w:World)(base p:Nat)(l:List UInt8)(cut:Bool)(left:Int):Prop :=
 base<=p/\∃v,w.heap[p]?=some (.cells #[v,.bool cut,Z left] 117 (0,0))/\eA w base v (ints l)
structure EA (w w':World):Prop where
 size:w.heap.size<=w'.heap.size
 block:∀(k:Nat) (c:Array Value) (f:Nat×Nat),w.heap[k]?=some (.cells c 9 f)->w'.heap[k]?=some (.cells c 9 f)
theorem EA.below{w w':World}(h:U w w'):EA w w' :=
 ⟨h.size,fun k c f e=>by rw[h.block k (Array.getElem?_eq_some_iff.1 e).1];exact e⟩
theorem Strs.keeps{w w':World}{base:Nat}{v:Value}{ts:List (List UInt8)}(h:Strs w base v ts)(hk:EA w w'):Strs w' base v ts:=by
 refine⟨h.1,?_⟩;rcases h.2 with hn | ⟨g,cap,cur,rfl,hb,hg,rest⟩
 .exact .inl hn
 .exact .inr ⟨g,cap,cur,rfl,hb,hk.block _ _ _ hg,rest⟩
theorem eA.form{w:World}{base:Nat}{v:Value}{xs:List Int}(h:eA w base v xs):∃g cap,v=.slice (some (O g 0)) xs.length cap/\xs.length<=cap:=by obtain⟨g,cap,cur,fz,hv,_,_,_,hc,_⟩:=h;exact⟨g,cap,hv,hc⟩
theorem eA.block{w w':World}{base:Nat}{v:Value}{xs:List Int}(h:eA w base v xs)(hb:∀k,v.ownBlock=some k->w'.heap[k]?=w.heap[k]?):eA w' base v xs:=by obtain⟨g,cap,cur,fz,rfl,hb',hg,rest⟩:=h;exact⟨g,cap,cur,fz,rfl,hb',(hb g rfl).trans hg,rest⟩
theorem eA.setCell{w:World}{base p j:Nat}{v:Value}{xs:List Int}{cs:Array Value}{f:Nat×Nat}(h:eA w base v xs)(hp:w.heap[p]?=some (.cells cs 117 f))(u:Value):eA (w.setCell (O p j) u) base v xs:=by
 obtain⟨g,cap,cur,fz,rfl,hb',hg,rest⟩:=h;refine⟨g,cap,cur,fz,rfl,hb',?_,rest⟩;rw[heap_setCell_other _ _ g _ ?_]
 .exact hg
 .intro hk
  have hk:g=p:=hk;rw[hk,hp]at hg;simp at hg
theorem eA.other{w:World}{base p:Nat}{v:Value}{xs:List Int}{cs:Array Value}{f:Nat×Nat}(h:eA w base v xs)(hp:w.heap[p]?=some (.cells cs 117 f)):some p≠v.ownBlock:=by
 obtain⟨g,cap,cur,fz,rfl,hb',hg,rest⟩:=h;intro hk;have hk:p=g:=by simpa [Value.ownBlock] using hk
 rw[<- hk,hp]at hg;simp at hg
theorem I1(s:ByteArray)(w:World)(hs:s.size<=1000000):
  Calls prog 102 #[.string s] w fun e w'=>e=.returned (Z ((12+s.size:Nat):Int))/\w'=w:=by
 go_enter func102,ntmps102;go_wp2;go_ret;exact⟨xj (by omega),rfl⟩
theorem sJ{w:World}{p:Nat}{v:Value}{cut:Bool}{left:Int}(h:w.heap[p]?=some (.cells #[v,.bool cut,Z left] 117 (0,0))):
  w.cell? (O p 0)=some v/\w.cell? (O p 1)=some (.bool cut)/\w.cell? (O p 2)=some (Z left)/\(∀j,w.frozen? (O p j)=false)/\p<w.heap.size :=
 ⟨by rw[cR w p 0 _ 117 (0,0) h];rfl,by rw[cR w p 1 _ 117 (0,0) h];rfl,by rw[cR w p 2 _ 117 (0,0) h];rfl,fun j=>frozen_of_row w p j _ 117 h,(Array.getElem?_eq_some_iff.1 h).1⟩
theorem Y9(p:Nat)(v:Value)(cut:Bool)(left:Int)(w:World)(h:w.heap[p]?=some (.cells #[v,.bool cut,Z left] 117 (0,0))):
  Calls prog 55 #[Rw p] w fun e w'=>e=.returned (.bool (!cut || decide (0<left)))/\w'=w:=by
 obtain⟨c0,c1,c2,fz,hp⟩:=sJ h;clear h;cases cut
 .go_enter func55,ntmps55
  go_wp2;go_ret;exact⟨by simp,rfl⟩
 .go_enter func55,ntmps55
  go_wp2;go_ret;exact⟨by simp,rfl⟩
theorem aap(base p:Nat)(l:List UInt8)(cut:Bool)(left:Int)(w:World)(h:aak w base p l cut left):
  Calls prog 59 #[Rw p] w fun e w'=>e=.returned (.string (ba l))/\w'=w:=by
 obtain⟨_,v,h,hr⟩:=h;obtain⟨c0,c1,c2,fz,hp⟩:=sJ h;clear h;have hcv:=ai0 hr;rw[aoh]at hcv;clear hr;go_enter func59,ntmps59;go_wp2;go_ret;exact⟨rfl,rfl⟩
theorem aoq(s:ByteArray)(w:World)(hs:s.size<=100000):
  Calls prog 52 #[.string s] w fun e w'=>∃p,e=.returned (.tuple #[Rw p,.nilIface])/\aak w' w.heap.size p s.data.toList false 0/\U w w':=by
 obtain⟨v,w1,hcv,hr,hb⟩:=ai1 w s hs;change eA w1 w.heap.size v (ints s.data.toList) at hr;obtain⟨g,cap,hv,_⟩:=hr.form;rw[jH,rh]at hv;subst hv;have hs':¬ (1048576:Int)<s.size:=by omega
 have HR:=Y hr;have HB:=Y hb;clear hr hb;go_enter func52,ntmps52;go_wp2;go_ret2;refine⟨w1.heap.size,rfl,⟨HB.size,_,hNq w1 _,?_⟩,HB.alloc HB.size _⟩;exact HR.block fun k hk=>heap_alloc_old w1 _ (HR.lt k hk).2
theorem ah.Db(k c sq it sd pr q id:Int):(ah.frame k c sq it sd pr q id).length=30:=by simp[ah.frame,ah.body,ah.high,ah.low]
theorem strOfNums_size(xs:List Int):(strOfNums xs).size=xs.length:=by simp[strOfNums,ByteArray.size]
def qp(v1 v2 v3:Value)(n:Nat):Value:=if n=2 then v1 else if n=3 then v2 else v3
theorem SY(k c sq it sd pr q id:Int)(v1 v2 v3:Value)(w:World)(h1:w.cell? (O 1 0)=some v1)(h2:w.cell? (O 3 0)=some v2)(h3:w.cell? (O 4 0)=some v3)(hc:ah.code k c sq it sd pr q id≠0):
  Calls prog 151 #[.agg #[.int .u8 k,Z c,Z sq,Z it,Z sd,Z pr,Z q,Z id]] w fun e w'=>e=.returned (qp v1 v2 v3 (ah.code k c sq it sd pr q id))/\U w w':=by
 have dw:=bCq _ _ h1;have z2:=bCq _ _ h2;have z3:=bCq _ _ h3;cases hk:ah.ny k with
 | false =>
  have e:qp v1 v2 v3 (ah.code k c sq it sd pr q id)=v3:=by simp[ah.code,hk,qp]
  rw[e];exact JQ k c sq it sd pr q id v3 w z3 h3 hk
 | true =>
  cases hb:ah.kF k c sq it sd pr q id with
  | false =>
   have e:qp v1 v2 v3 (ah.code k c sq it sd pr q id)=v1:=by simp[ah.code,hk,hb,qp]
   rw[e];exact JR k c sq it sd pr q id v1 w dw h1 hk hb
  | true =>
   cases hs:ah.ot k it sd pr q id with
   | false =>
    have e:qp v1 v2 v3 (ah.code k c sq it sd pr q id)=v2:=by simp[ah.code,hk,hb,hs,qp]
    rw[e];exact JU k c sq it sd pr q id v2 w z2 h2 hk hb hs
   | true=>simp[ah.code,hk,hb,hs]at hc
theorem ahD{T1 T2 T3:TypeId}{x1 x2 x3:Value}(n:Nat):∃T x,qp (.iface T1 x1) (.iface T2 x2) (.iface T3 x3) n=.iface T x:=by
 unfold qp;split
 .exact⟨_,_,rfl⟩
 .split
  .exact⟨_,_,rfl⟩
  .exact⟨_,_,rfl⟩
theorem ae1(k c sq it sd pr q id:Int)(T1 T2 T3:TypeId)(x1 x2 x3:Value)(w:World)(h1:w.cell? (O 1 0)=some (.iface T1 x1))(h2:w.cell? (O 3 0)=some (.iface T2 x2))(h3:w.cell? (O 4 0)=some (.iface T3 x3))(hc:ah.code k c sq it sd pr q id≠0):
  Calls prog 138 #[.agg #[.int .u8 k,Z c,Z sq,Z it,Z sd,Z pr,Z q,Z id]] w fun e w'=>e=.returned (.tuple #[.string ⟨#[]⟩,qp (.iface T1 x1) (.iface T2 x2) (.iface T3 x3) (ah.code k c sq it sd pr q id)])/\U w w':=by
 obtain⟨T,x,he⟩:=ahD (T1:=T1) (T2:=T2) (T3:=T3) (x1:=x1) (x2:=x2) (x3:=x3) (ah.code k c sq it sd pr q id);rw[he];refine afk k c sq it sd pr q id T x w (fun o=>?_);rw[<- he];have hb:U w (w.alloc o):=(bRq _ _).alloc (E _) o;exact SY k c sq it sd pr q id _ _ _ (w.alloc o) (cell_later hb h1) (cell_later hb h2) (cell_later hb h3) hc
theorem FC{k c sq it sd pr q id:Int}(h:ah.code k c sq it sd pr q id=0):ah.ny k=true/\ah.kF k c sq it sd pr q id=true/\ah.ot k it sd pr q id=true:=by
 cases hk:ah.ny k <;> cases hb:ah.kF k c sq it sd pr q id <;> cases hs:ah.ot k it sd pr q id <;> simp[ah.code,hk,hb,hs]at h ⊢
end
theorem ah.within_iff{x lo hi:Int}:ah.aK x lo hi=true↔lo<=x/\x<=hi:=by simp[ah.aK]
structure ah.Fits (k c sq it sd pr q id:Int):Prop where
 k:0<=k/\k<256
 c:0<=c/\c<256
 sq:0<=sq/\sq<4294967296
 it:0<=it/\it<256
 sd:0<=sd/\sd<256
 pr:0<=pr/\pr<4294967296
 q:0<=q/\q<4294967296
 id:0<=id/\id<4294967296
theorem ah.fits{k c sq it sd pr q id:Int}(h:ah.code k c sq it sd pr q id=0):ah.Fits k c sq it sd pr q id:=by
 obtain⟨h1,h2,h3⟩:=FC h;simp only[ah.ny,Bool.or_eq_true,beq_iff_eq]at h1;simp only[ah.kF,Bool.and_eq_true,ah.within_iff]at h2;obtain⟨⟨⟨hc,Gy⟩,hid⟩,hr⟩:=h2;unfold ah.ot at h3;by_cases k1:k=111
 .subst k1
  simp[ah.within_iff]at hr;exact⟨by omega,by omega,by omega,by omega,by omega,by omega,by omega,by omega⟩
 .have e1:(k==111)=false:=by simpa using k1
  rw[e1]at h3 hr;by_cases k2:k=99
  .subst k2
   simp[ah.within_iff]at hr h3;exact⟨by omega,by omega,by omega,by omega,by omega,by omega,by omega,by omega⟩
  .have e2:(k==99)=false:=by simpa using k2
   rw[e2]at h3;simp at h3;exact⟨by omega,by omega,by omega,by omega,by omega,by omega,by omega,by omega⟩
end Go.Proofs.YtjolccidheflpaaGreatDoor
