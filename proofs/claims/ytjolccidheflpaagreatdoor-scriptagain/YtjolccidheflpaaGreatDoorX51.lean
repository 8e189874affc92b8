/- A line obeyed, by its contract. -/
import Derived.Test.YtjolccidheflpaaGreatDoorX50
import Derived.Laws.EntriesVeiled
namespace Go.Proofs.YtjolccidheflpaaGreatDoor
open Go.Proofs.Tryz
set_option maxHeartbeats 8000000
set_option maxRecDepth 100000
section
open Go.RowKit
namespace bg
def nameOf(s:ByteArray):ByteArray:=aZ (Lib.cut s.data.toList [32]).1
def yP(P:Pl.St):(ByteArray×Option Nat)×Pl.St:=((⟨#[]⟩,some 0),P)
noncomputable def cn (P:Pl.St) (s:ByteArray):(ByteArray×Option Nat)×Pl.St :=
 match tab (nameOf s) with
 | none=>yP P
 | some c=>match rd c.sp c.bD s with
  | none=>yP P
  | some lt=>mV c.d P lt.1 lt.2
theorem Zl(sep:ByteArray):∀(k:Nat) (s:ByteArray),∀x∈Lib.splitB sep 0 k s,x.size<=s.size
 | 0,s,x,hx=>by rw[Lib.splitB_zero]at hx;rw[List.mem_singleton.1 hx];exact E _
 | k+1,s,x,hx=>by
  unfold Lib.splitB at hx;split at hx
  .rw[List.mem_singleton.1 hx];exact E _
  .rcases List.mem_cons.1 hx with h | h
   .rw[h,ByteArray.size_extract];omega
   .have:=Zl sep k _ x h
    rw[ByteArray.size_extract]at this;omega
theorem amX{sp:List (Int×Int)}{bD:Bool}{s:ByteArray}{l:List Int}{t:ByteArray}(h:rd sp bD s=some (l,t)):t.size<=s.size:=by
 unfold rd at h;split at h
 .obtain⟨l1,h1,h2⟩:=Option.map_eq_some_iff.1 h
  cases h2;split
  .rw[gE]
   cases hg:(parts sp.length s)[want sp bD-1]? with
   | none=>exact Nat.zero_le _
   | some x=>exact Zl _ _ _ x (List.mem_of_getElem? hg)
  .exact Nat.zero_le _
 .cases h
theorem Zm{P:Pl.St}{s:ByteArray}(h:tab (nameOf s)=none):cn P s=yP P:=by unfold cn;rw[h]
theorem Zn{P:Pl.St}{s:ByteArray}{c:mW}(h:tab (nameOf s)=some c)(h2:rd c.sp c.bD s=none):cn P s=yP P:=by unfold cn;rw[h];simp only[h2]
theorem Eg{P:Pl.St}{s:ByteArray}{c:mW}{l:List Int}{t:ByteArray}(h:tab (nameOf s)=some c)(h2:rd c.sp c.bD s=some (l,t)):cn P s=mV c.d P l t:=by unfold cn;rw[h];simp only[h2]
theorem amY{n:ByteArray}{c:mW}(h:tab n=some c):c.sp.length<=10:=by rcases OX h with rfl | rfl | rfl | rfl | rfl | rfl | rfl | rfl | rfl | rfl | rfl | rfl | rfl | rfl <;> show _<=10 <;> decide
section
variable {w W:World} {ad:Nat->Addr} {sp M p lo hi:Nat} {B:bO} {X:bQ} {P:Pl.St}
theorem alx(s:ByteArray)(hz:s.size<=1000){K:Nat}(I:Hid (Inv K P))(hK:K<=100000)(W:World)(H:Hid (dO w W sp M p lo hi B X P))(hs:Hid (bJ w ad))(hbt:Hid (iF w))(hL:Hid (ik w)):
  Calls prog 130 #[Rw sp,.string s] W fun e w'=>e=.returned (.tuple #[.string (cn P s).1.1,fq ad (cn P s).1.2])/\fM w W w' sp M p lo hi B X (cn P s).2:=by
 have mq:=Y (Pn s 32 W (hL.later H.cu.aV.bG) (by omega));have Zo:aZ (Lib.cut s.data.toList [32]).1=nameOf s:=rfl;rw[Zo]at mq;clear Zo;have kX:Hid (tab (nameOf s)=none->cn P s=yP P):=Y Zm;have amZ:Hid (∀c,tab (nameOf s)=some c->rd c.sp c.bD s=none->cn P s=yP P):=Y (fun c=>Zn);have fW:Hid (∀c l t,tab (nameOf s)=some c->rd c.sp c.bD s=some (l,t)->cn P s=mV c.d P l t):=Y (fun c l t=>Eg);generalize cn P s=D3 at *;generalize nameOf s=nm at *;go_enter func130,ntmps130
 go_wp2_with fail
 refine mq.mono ?_;rintro e w1 ⟨rfl,hb1⟩;have H1:=Y (H.later hb1);have HB1:=Y hb1;clear hb1;have c1:=H1.cell.2;simp only[];rcases am0 H1.AU nm with ⟨c,sv,f,cs,htab,hrun,hsp,Zp⟩ | ⟨htab,hrun⟩
 .obtain⟨sa,rfl,_⟩:=Zq hsp
  have Zr:=amY htab;have oq:U w1 (w1.alloc (.cells #[.slice sa c.sp.length c.sp.length,.bool c.bD,.func f #[] cs] 223)):=aj;have Po:=hNq w1 (.cells #[.slice sa c.sp.length c.sp.length,.bool c.bD,.func f #[] cs] 223 (0,0));obtain⟨w2,hw2⟩:=aG (w1.alloc (.cells #[.slice sa c.sp.length c.sp.length,.bool c.bD,.func f #[] cs] 223));rw[hw2]at oq Po;have hkeep:∀{b:Nat} {cc:Array Value} {tt:TypeId} {ff:Nat×Nat},(lo<=b/\b<hi)->w1.heap[b]?=some (.cells cc tt ff)->(lo<=b/\b<hi)/\w2.heap[b]?=some (.cells cc tt ff):=fun hS h=>⟨hS,by rw[oq.block _ (lt_of_some h)];exact h⟩;have H2:=Y (H1.later oq);have j4:=Y (Ir c.sp c.bD _ f cs s w2 (Y (hsp.mono hkeep)) (Y (hL.later H2.cu.aV.bG)) Zr (by omega));have am1:=Y (Zp.mono hkeep);have HB2:=Y (ar HB1 oq);have Pp:=Y htab;have Am:=Y Po;have HW2:=Y hw2;clear htab hsp Zp hkeep oq Po hw2 Zr;obtain⟨sn,am2⟩:=aG c.sp.length;obtain⟨ctx,Pq⟩:=aG c.bD;rw[am2,Pq]at hrun j4 HW2 Am
  go_wp2_with fail
  rw[HW2.out];refine j4.mono ?_;rintro e w3 ⟨hb3,⟨hr,rfl⟩ | ⟨l,t,v,hr,rfl,hrow⟩⟩
  .have Em:=Y (amZ c Pp (by rw[Pq];exact hr))
   have H3:=Y (H2.later hb3);have av:=Y (ar HB2 hb3);have bR:U w3 (w3.alloc (.cells #[.slice none 0 0,.string ⟨#[]⟩] 280)):=aj;obtain⟨aI,lA⟩:=aG (w3.alloc (.cells #[.slice none 0 0,.string ⟨#[]⟩] 280));rw[lA]at bR;have g0:aI.cell? (O 0 0)=some (.iface 412 (.pointer (some (ad 0)))):=((H3.later bR).cu.aV.sent hs).cell 0 (by decide);have oK:=Y (fM.same H ((ar av bR).trans (cw.mono (lTq av.size bR.size))));have Pr:=Y lA;clear hr hb3 hrun bR lA;simp only[];go_wp2;rw[Pr.out]
   go_region
   go_wp2;go_ret2;rw[Em.out];exact⟨rfl,oK⟩
  .have Em:=Y (fW c l t Pp (by rw[Pq];exact hr))
   have hft:Fits c.sp l:=YO hr;have Pg:=amX hr;obtain⟨va,vc,rfl⟩:=Ec hrow;have hb4:U w3 (w3.alloc (.cells #[.slice va l.length vc,.string t] 280)):=aj;obtain⟨w4,hw4⟩:=aG (w3.alloc (.cells #[.slice va l.length vc,.string t] 280));have Iu:=hNq w3 (.cells #[.slice va l.length vc,.string t] 280 (0,0));rw[hw4]at hb4 Iu;have En:U w2 w4:=ar hb3 hb4;have d8:=Y (H2.later En);obtain⟨g,rfl,hent,hcall⟩:=aml (W:=w4) (base:=w2.heap.size) Pp hft (lTq Pg hz) I hK d8 (am1.mono (fun hS h=>⟨hS,by rw[En.block _ (lt_of_some h)];exact h⟩)) (Y (dh hrow hb4)) hs hbt hL;have wj:=Y hcall;have am3:=Y hw4;have bS:=Y (ar HB2 En);have c2:=ag (bF En Am) 2 rfl;have c3:=ag Iu 0 rfl;have c4:=ag Iu 1 rfl;clear hr hb3 hrun hrow hb4 En hcall hw4 Iu hft Pg;simp only[]
   go_wp2_with (rw[am3.out])
   refine wj.mono ?_;rintro e aA ⟨rfl,hact⟩;have O1:=Y hact;clear hact;simp only[];go_wp2;go_ret2;rw[Em.out];obtain⟨p',B',X',h1,h2⟩:=O1.out;exact⟨rfl,p',B',X',h1,(aL.of_below bS _).trans h2 (fun _ h=>.inl h)⟩
 .have Em:=Y (kX htab)
  clear htab;have bR:U w1 (w1.alloc (.cells #[.slice none 0 0,.bool false,.nilFunc] 223)):=aj;obtain⟨aI,lA⟩:=aG (w1.alloc (.cells #[.slice none 0 0,.bool false,.nilFunc] 223));rw[lA]at bR;have g0:aI.cell? (O 0 0)=some (.iface 412 (.pointer (some (ad 0)))):=((H1.later bR).cu.aV.sent hs).cell 0 (by decide);have oK:=Y (fM.same H ((ar HB1 bR).trans (cw.mono (lTq HB1.size bR.size))));have Pr:=Y lA;clear bR lA;go_wp2;rw[Pr.out]
  go_region
  go_wp2;go_ret2;rw[Em.out];exact⟨rfl,oK⟩
end
end bg
end
namespace bg
theorem ZQ(c:UInt8):∀s:List UInt8,(Lib.indexByte s c = -1/\s.count c=0)\/∃i:Nat,Lib.indexByte s c=i/\s.count c=1+(s.drop (i+1)).count c
 | []=>.inl ⟨rfl,rfl⟩
 | b::s=>by
  unfold Lib.indexByte;by_cases hb:(b==c)=true
  .rw[if_pos hb]
   refine .inr ⟨0,rfl,?_⟩;have:b=c:=by simpa using hb
   subst this;simp[Nat.add_comm]
  .rw[if_neg hb]
   have hbc:¬ b=c:=by simpa using hb
   have qM:(b::s).count c=s.count c:=List.count_cons_of_ne hbc;rcases ZQ c s with ⟨h1,h2⟩ | ⟨i,h1,h2⟩
   .rw[h1,if_pos (by decide)]
    exact .inl ⟨rfl,by rw[qM,h2]⟩
   .rw[h1,if_neg (by simp)]
    exact .inr ⟨i+1,by omega,by rw[qM,h2];rfl⟩
theorem ZR(c:UInt8):∀(k:Nat) (s:List UInt8),(Lib.splitK [c] 0 k s).length=min k (s.count c)+1
 | 0,s=>by unfold Lib.splitK;simp
 | k+1,s=>by
  unfold Lib.splitK;rw[Lib.index_one];rcases ZQ c s with ⟨h1,h2⟩ | ⟨i,h1,h2⟩
  .rw[h1,if_pos (by decide),h2];rfl
  .rw[h1,if_neg (by simp),lCq,ZR c k,h2]
   simp only[Int.toNat_natCast,List.length_singleton];omega
theorem anI(n:Nat)(s:ByteArray):(parts n s).length=min (min (2+n) (s.size+1)-1) (s.data.toList.count 32)+1:=by have h:=Lib.splitB_data ⟨#[32]⟩ 0 (min (2+n) (s.size+1)-1) s;have h2:=congrArg List.length h;rw[List.length_map]at h2;unfold parts;rw[h2];exact ZR 32 _ _
theorem anJ{sp:List (Int×Int)}{s:ByteArray}(h:s.data.toList.count 32≠sp.length):rd sp false s=none:=by unfold rd;refine if_neg ?_;rw[anI];have h1:s.data.toList.count 32<=s.size:=List.count_le_length;show _≠1+sp.length+0;omega
theorem anK{n:ByteArray}{c:mW}(h:tab n=some c)(hn:n≠⟨#[98,121,116,101,115]⟩):c.bD=false:=by unfold tab at h;obtain⟨x,hx,rfl⟩:=Option.map_eq_some_iff.1 h;have hm:=List.mem_of_find?_eq_some hx;have he:=List.find?_some hx;have uy:x.1=n:=of_decide_eq_true he;simp only[cmds,List.map_cons,List.map_nil,List.mem_cons,List.not_mem_nil,or_false]at hm;rcases hm with rfl | rfl | rfl | rfl | rfl | rfl | rfl | rfl | rfl | rfl | rfl | rfl | rfl | rfl <;> first | rfl | exact absurd uy.symm hn
theorem anq{P:Pl.St}{s:ByteArray}(h:tab (nameOf s)=none\/∃c,tab (nameOf s)=some c/\nameOf s≠⟨#[98,121,116,101,115]⟩/\s.data.toList.count 32≠c.sp.length):cn P s=yP P:=by
 rcases h with h | ⟨c,h1,h2,h3⟩
 .exact Zm h
 .exact Zn h1 (by rw[anK h1 h2];exact anJ h3)
end bg
section
open Go.RowKit
namespace bg
def sw(w:World)(ad:Nat->Addr)(et:Nat->ByteArray):Prop:=∀g,g<12->w.cell? (ad g)=some (.string (et g))
def mo(et:Nat->ByteArray)(a:ByteArray×Option Nat):ByteArray:=match a.2 with
 | none=>a.1
 | some k=>et k
theorem alp(d:Nat)(P:Pl.St)(l:List Int)(t:ByteArray):∀k,(mV d P l t).1.2=some k->k<12:=by
 unfold mV
 repeat' split
 all_goals (intro k hk;cases hk)
 decide
theorem alq(P:Pl.St)(s:ByteArray):∀k,(cn P s).1.2=some k->k<12:=by
 unfold cn;split
 .intro k hk;cases hk;decide
 .split
  .intro k hk;cases hk;decide
  .exact alp _ _ _ _
theorem alr(v:Value)(w:World):(Go.method 580 412 v "Error").run prog w=.ok (387,v) w:=by kernel_rfl
theorem als(x:Addr)(t:ByteArray)(W:World)(hc:W.cell? x=some (.string t)):Calls prog 387 #[.pointer (some x)] W fun e w'=>e=.returned (.string t)/\w'=W:=by go_enter func387,ntmps387;go_wp2;go_ret;exact⟨rfl,rfl⟩
theorem alu(x:Addr)(W:World)(hg:Hid (W.cell? (O 12 0)=some (.iface 310 (.agg #[.pointer (some (O 26 26))])))):Calls prog 103 #[.iface 412 (.pointer (some x))] W fun e w'=>e=.returned (.iface 412 (.pointer (some x)))/\U W w':=by
 have hb:U W (W.alloc (.cells #[.pointer none] 172)):=aj;obtain⟨w1,d6⟩:=aG (W.alloc (.cells #[.pointer none] 172));rw[d6]at hb;have alv:=Y (fun t=>AAB x t w1 (cell_later hb hg));have HB:=Y hb;have HW1:=Y d6;clear hb d6;go_enter func103,ntmps103
 go_wp2_with fail
 rw[HW1.out];refine(alv _).mono ?_;rintro e w2 ⟨rfl,hb2⟩;have HB2:=Y (ar HB hb2);clear hb2;simp only[];go_wp2;go_ret;exact⟨rfl,HB2⟩
section
variable {w W:World} {ad:Nat->Addr} {sp M p lo hi:Nat} {B:bO} {X:bQ} {P:Pl.St} {et:Nat->ByteArray}
theorem alw(s:ByteArray)(hz:s.size<=1000){K:Nat}(I:Hid (Inv K P))(hK:K<=100000)(W:World)(H:Hid (dO w W sp M p lo hi B X P))(hs:Hid (bJ w ad))(hbt:Hid (iF w))(hL:Hid (ik w))(hT:Hid (sw w ad et)):
  Calls prog 73 #[Rw sp,.string s] W fun e w'=>e=.returned (.string (mo et (cn P s).1))/\fM w W w' sp M p lo hi B X (cn P s).2:=by
 have zZ:=Y (alx s hz I hK W H hs hbt hL);have aly:Hid (∀k,(cn P s).1.2=some k->k<12):=Y (alq P s);generalize cn P s=D3 at *;obtain⟨⟨O0,cp⟩,yH⟩:=D3;cases cp with
 | none =>
  have e0:fq ad none=.nilIface:=rfl;simp only[e0]at zZ;clear e0;go_enter func73,ntmps73
  go_wp2_with fail
  refine zZ.mono ?_;rintro e w1 ⟨rfl,hact⟩;have O1:=Y hact;clear hact;simp only[];go_wp2;go_ret;exact⟨rfl,O1⟩
 | some k =>
  have hk:=aly.out k rfl;have HC:=Y (hT k hk);have e0:fq ad (some k)=.iface 412 (.pointer (some (ad k))):=rfl;simp only[e0]at zZ;clear e0 hk;generalize ad k=x at *;have atV:=alr;go_enter func73,ntmps73
  go_wp2_with fail
  refine zZ.mono ?_;rintro e w1 ⟨rfl,hact⟩;obtain⟨p',B',X',h1,h2⟩:=hact;have HAS:=Y (alu x w1 (Y (h1.cu.aV.sent hs).et));have H1:=Y h1;have H2:=Y h2;clear h1 h2;simp only[]
  go_wp2_with fail
  refine HAS.mono ?_;rintro e w2 ⟨rfl,hb2⟩;have HB2:=Y hb2;have alz:=Y (als x (et k) w2 (cell_later hb2 (cell_later H1.cu.aV.bG HC)));clear hb2;simp only[]
  go_wp2_with fail
  refine alz.mono ?_;rintro e w3 ⟨rfl,hw3⟩;subst w3;simp only[];go_wp2;go_ret;exact⟨rfl,p',B',X',H1.later HB2,H2.trans (aL.of_below HB2 (fun _=>False)) (fun _ h=>h.elim)⟩
end
end bg
namespace bg
noncomputable def nW (P:Pl.St) (f:Nat->ByteArray):Nat->Pl.St
 | 0=>P
 | k+1=>(cn (nW P f k) (f k)).2
noncomputable def gT (et:Nat->ByteArray) (P:Pl.St) (f:Nat->ByteArray):Nat->List ByteArray
 | 0=>[]
 | k+1=>gT et P f k++[mo et (cn (nW P f k) (f k)).1]
theorem sx(et:Nat->ByteArray)(P:Pl.St)(f:Nat->ByteArray):∀k,(gT et P f k).length=k
 | 0=>rfl
 | k+1=>by show (gT et P f k++[_]).length=_;rw[lAq,sx et P f k];rfl
theorem anw{K:Nat}{P:Pl.St}(I:Inv K P)(hK:K<=100000)(s:ByteArray):Inv (K+50) (cn P s).2:=by
 unfold cn;split
 .exact I.more (by omega)
 .rename_i c hc
  split
  .exact I.more (by omega)
  .rename_i lt hr
   exact alh I hK hc (YO (l:=lt.1) (t:=lt.2) hr) lt.2
theorem ZK{P:Pl.St}(I:Inv 0 P)(f:Nat->ByteArray):∀k,k<=1000->Inv (50*k) (nW P f k)
 | 0,_=>I
 | k+1,hk=>anw (ZK I f k (by omega)) (by omega) (f k)
noncomputable def dX:Pl.St:=Pl.new (Ve.init 100 20000 100)
theorem PK:Inv 0 dX:=⟨E _,anx,Pl.WK _,_,Ve.anz 100 20000 100⟩
section
variable {w W W':World} {ad:Nat->Addr} {sp M p lo hi:Nat} {B:bO} {X:bQ} {P:Pl.St} {et:Nat->ByteArray}
theorem dO.grown{v:Value}{n:Nat}{xs:List Value}(H:dO w W sp M p lo hi B X P)(hr:W.ownsRow sp 9 1 v n xs)(hg:W.grownBy W' v.ownBlock):dO w W' sp M p lo hi B X P:=by
 have hk:∀{k:Nat} {c:Array Value} {t:TypeId},t≠9->W.heap[k]?=some (.cells c t (0,0))->W'.heap[k]?=some (.cells c t (0,0)):=fun {k c t} ht hb=>by
  rw[hg.block _ (lBq hb) (fun e=>by
   obtain⟨_,cur,h2⟩:=cB hr e.symm;exact aN h2 hb (Ne.symm ht) rfl)]
  exact hb
 refine⟨hk (by decide) H.blk,⟨hk (by decide) H.cu.blk,H.cu.aV.grown hr (by decide) (by decide) H.low hg,H.cu.lo⟩,H.AU.keep H.m (fun b hb hl=>⟨hb,hg.block b hl (fun e=>?_)⟩),H.m,H.ap,lTq H.le hg.size,H.ge,H.low⟩
 have:=(cB hr e.symm).1;have:=H.ge;have:=hb.2;omega
theorem dO.row{base n:Nat}{v:Value}{xs:List Value}(H:dO w W sp M p lo hi B X P)(hr:W.ownsRow base 9 1 v n xs)(ht:aL W W' (fun k=>k=sp\/k=p\/dV B X k)):W'.ownsRow base 9 1 v n xs:=by
 refine eV hr ht (fun k hk=>?_);obtain⟨_,cur,h2⟩:=cB hr hk;rintro (rfl | rfl | hv)
 .exact aN h2 H.blk (by decide) rfl
 .exact aN h2 H.cu.blk (by decide) rfl
 .exact mR H.cu.aV h2 (by decide) hv
theorem dO.first{w1 w2:World}(hp:eF w w1 p B X 10 2 0 P)(hM:w1.heap.size<=M)(hc:yK (bh w1.heap.size) M w2)(hb:U w1 w2):
  dO w (w2.alloc (.cells #[Rw p,.map (some M)] 153)) w2.heap.size M p w1.heap.size w2.heap.size B X P:=by
 have hba:U w2 (w2.alloc (.cells #[Rw p,.map (some M)] 153)):=aj;have anA:M<w2.heap.size:=by obtain⟨⟨es,cl,h1,_⟩,_⟩:=hc;exact lt_of_some h1
 refine⟨hNq _ _,(hp.later hb).later hba,hc.keep hM (fun b hb1 hl=>⟨⟨hb1,hl⟩,hba.block b hl⟩),⟨hM,anA⟩,fun k h1 h2=>⟨fun e=>?_,fun h=>?_⟩,hba.size,E _,lTq hp.aV.bG.size hb.size⟩
 .have:=lBq hp.blk;omega
 .have:=(hp.aV.ig h).2;omega
theorem anp(a:Option Addr)(m cap:Nat)(W:World)(hs:Hid (bJ W ad))(hm:100<m):
  Calls prog 34 #[.slice a m cap] W fun e w'=>e=.returned (.tuple #[.slice none 0 0,.iface 412 (.pointer (some (ad 1)))])/\U W w':=by
 have hmm:(100:Int)<(m:Int):=by omega
 have g0:W.cell? (O 1 0)=some (.iface 412 (.pointer (some (ad 1)))):=hs.cell 1 (by decide);go_enter func34,ntmps34;go_wp2
 go_region
 go_wp2;go_ret2;exact⟨rfl,cw⟩
theorem ZL{base m cap:Nat}{a:Option Addr}{l:List ByteArray}(h:W.ownsRow base 9 1 (.slice a m cap) l.length (f_ (fun x=>x) l)){k:Nat}{x:ByteArray}(hx:l[k]?=some x):∃g,a=some g/\W.cell? (g.add k)=some (.string x):=by
 have hk:k<l.length:=(List.getElem?_eq_some_iff.1 hx).1;rcases h.2 with ⟨_,e0⟩ | ⟨g,c,cur,e,_,_⟩
 .omega
 .have ea:a=some (O g 0):=by injection e
  subst ea;exact⟨_,rfl,World.ownsRow.cells h (g:=g) rfl k (.string x) (by simp[f_,hx])⟩
def jw(w:World)(a:Option Addr)(l:List ByteArray):Prop:=∀k x,l[k]?=some x->∃g,a=some g/\w.cell? (g.add k)=some (.string x)
theorem jw.later{w w':World}{a:Option Addr}{l:List ByteArray}(h:jw w a l)(hb:U w w'):jw w' a l:=fun k x hx=>by
 obtain⟨g,e,hc⟩:=h k x hx;exact⟨g,e,cell_later hb hc⟩
theorem jw.of{w:World}{base m cap:Nat}{a:Option Addr}{l:List ByteArray}(h:w.ownsRow base 9 1 (.slice a m cap) l.length (f_ (fun x=>x) l)):jw w a l:=fun _ _ hx=>ZL h hx
theorem OV(a:Option Addr)(m cap:Nat)(l:List ByteArray)(W:World)(hs:Hid (bJ W ad))(hbt:Hid (iF W))(hL:Hid (ik W))(hT:Hid (sw W ad et))(hl:Hid (l.length=m))(hrow:Hid (jw W a l))(hz:Hid (∀x∈l,x.size<=1000))(hm:m<=100):
  Calls prog 34 #[.slice a m cap] W fun e w'=>∃v,e=.returned (.tuple #[v,.nilIface])/\w'.ownsRow W.heap.size 9 1 v m (f_ (fun x=>x) (gT et dX (fun i=>l.getD i ⟨#[]⟩) m))/\U W w':=by
 have hmm:¬ (100:Int)<(m:Int):=by omega
 have Ew:=Y (ajb 0 W hs);rw[show (0:Int)%4294967296=0 by decide]at Ew;obtain⟨f,hf⟩:=aG (fun i=>l.getD i ⟨#[]⟩);have H6:Hid (∀i x,l[i]?=some x->f i=x):=Y fun i x hx=>by rw[<- hf];simp[List.getD_eq_getElem?_getD,hx]
 rw[hf];clear hf;obtain⟨i5,z,hi,hz0,hz1,hz2,hz3⟩:=Ai;obtain⟨yT,hM⟩:∃yT,yT=madeCells z.cells ((m:Int).toNat*i5.size):=⟨_,rfl⟩;have nB:yT.size=m:=by rw[hM,size_madeCells,hz1];simp
 have ay:∀W:World,(Instr.makeSlice 70 (Z 0) (Z (m:Int))).run prog W=.ok (.slice (some (O W.heap.size 0)) 0 m) (W.alloc (.cells yT 9)):=fun W=>by
  have h:=run_make (P:=prog) W 70 9 i5 z underlying70 hi hz0 .i64 .i64 (0:Int) (m:Int) (by omega) (by omega) (by rw[hz2];omega) (by omega);rw[<- hM]at h;simpa using h
 have gi:Hid (∀W:World,(W.alloc (.cells yT 9)).ownsRow W.heap.size 9 1 (.slice (some (O W.heap.size 0)) 0 m) 0 []):=Y (fun W=>World.ownsRow_made W yT m (E _) (by unfold maxLen;omega) (by omega));clear hM nB hi hz0 hz1 hz2 hz3;go_enter func34,ntmps34
 go_wp2_with fail
 refine Ew.mono ?_;rintro e w1 ⟨p,B,X,rfl,hp⟩;have HP:=Y hp;clear hp;simp only[]
 go_wp2_with fail
 refine(alU w1).mono ?_;rintro e w2 ⟨M,rfl,hM,hc,hb2⟩;have h3:=dO.first HP hM hc hb2
 have ZM:Below (w2.alloc (.cells #[Rw p,.map (some M)] 153)).heap.size (w2.alloc (.cells #[Rw p,.map (some M)] 153)) ((w2.alloc (.cells #[Rw p,.map (some M)] 153)).alloc (.cells yT 9)):=aj;have d8:=Y (h3.later ZM);have HRR:=Y (ij (gi (w2.alloc (.cells #[Rw p,.map (some M)] 153))) (show w2.heap.size<=_ by rw[World.alloc];simp));rw[show (w2.alloc (.cells #[Rw p,.map (some M)] 153)).heap.size=w2.heap.size+1 by rw[World.alloc];simp]at HRR;clear h3 ZM hM hc hb2;simp only[]
 go_wp2_with fail
 go_loopw [7,30] (fun rv kv wr=>∃(k p':Nat) (B':bO) (X':bQ),k<=m/\kv=Z k/\dO W wr w2.heap.size M p' w1.heap.size w2.heap.size B' X' (nW dX f k)/\wr.ownsRow w2.heap.size 9 1 rv (gT et dX f k).length (f_ (fun x=>x) (gT et dX f k))) (fun _ kv _=>m-(intOf kv).toNat)
 case atStart=>exact⟨0,p,B,X,Nat.zero_le _,rfl,d8,HRR⟩
 case round =>
  obtain⟨k,p',B',X',hk,rfl,h5,fI⟩:=hrel;have H5:=Y h5;have bE:=Y fI;clear h5 fI ay;by_cases hlt:k<m
  .have aT:(k:Int)<m:=by omega
   have hkl:k<l.length:=by rw[hl.out];exact hlt
   obtain⟨x,hx⟩:∃x,l[k]?=some x:=⟨_,List.getElem?_eq_getElem hkl⟩;obtain⟨g,hg,hcx⟩:=(hrow.later H5.cu.aV.bG) k x hx;have Et:=H6.out k x hx;have hxz:=hz.out x (List.mem_of_getElem? hx);have IQ:Hid (nW dX f (k+1)=(cn (nW dX f k) x).2):=Y (by show (cn _ (f k)).2=_;rw[Et]);have nA:Hid (gT et dX f (k+1)=gT et dX f k++[mo et (cn (nW dX f k) x).1]):=Y (by show _++[mo et (cn _ (f k)).1]=_;rw[Et]);have oh:=Y (alw x hxz (Y (ZK PK f k (by omega))) (by omega) wr H5 hs hbt hL hT);have hlk:(gT et dX f k).length<=1000000:=by rw[sx];omega
   generalize cn (nW dX f k) x=D3 at *;generalize nW dX f k=auf at *;subst hg;clear hx Et hxz
   go_wp2_with fail
   refine oh.mono ?_;rintro e aI ⟨rfl,PL,anB,PN,h6,A1⟩;have fB:=H5.row bE A1;have gR:w2.heap.size<=aI.heap.size:=Nat.le_of_lt (lBq h6.blk);obtain⟨v7,dH,hap,vv,ZN⟩:=Aj (fun x=>x) aI u7 (gT et dX f k) (mo et D3.1) fB hlk gR;have q9:U aI (aI.alloc (.cells #[.string (mo et D3.1)] 9)):=aj;have yU:=Y ((h6.later q9).grown (dh fB q9) ZN);have ew:=Y vv;have cW:=Y hap;clear hap vv ZN q9 fB h6 A1 gR hcx;simp only[]
   go_wp2_with (at_builtin;refine wpList_append_run rfl _ _ 70 rfl _ _ _ rfl rfl cW ?_)
   go_roundw
   case rel=>exact⟨k+1,PL,anB,PN,hlt,by go_num,by rw[IQ.out];exact yU,by rw[nA.out];exact ew⟩
   case measure=>simp[intOf];omega
  .have aT:¬ (k:Int)<m:=by omega
   obtain rfl:k=m:=by omega
   have A4:=ij bE (H5.low);rw[sx]at A4;have anC:=Y A4;clear A4;go_wp2;go_ret2;exact⟨_,rfl,anC,H5.cu.aV.bG⟩
theorem Ge(a:Option Addr)(m cap:Nat)(l:List ByteArray)(bG:Nat)(W:World)(hs:Hid (bJ W ad))(hbt:Hid (iF W))(hL:Hid (ik W))(hT:Hid (sw W ad et))(hl:Hid (l.length=m))(hrow:Hid (W.ownsRow bG 9 1 (.slice a m cap) l.length (f_ (fun x=>x) l)))(hz:Hid (∀x∈l,x.size<=1000))(hm:m<=100):
  Calls prog 34 #[.slice a m cap] W fun e w'=>∃v,e=.returned (.tuple #[v,.nilIface])/\w'.ownsRow W.heap.size 9 1 v m (f_ (fun x=>x) (gT et dX (fun i=>l.getD i ⟨#[]⟩) m))/\U W w' :=
 OV a m cap l W hs hbt hL hT hl (Y (jw.of hrow)) hz hm
end
end bg
end
namespace bg
open Ve
theorem ams{S:St}{c:Nat}(hc:c<6){a:Ask}(ha:a_.ac a=0)(hd:S.down=false)(mQ:S.aF c=⟨#[]⟩):eW S c (bA a)=jY { S with aF:=upd S.aF c ⟨#[]⟩ } c (bA a):=by
 obtain⟨_,_,a3⟩:=Ve.AV ha;have hw:¬ (S.down=true\/ah.aK (c:Int) 0 5=false):=by
  have:ah.aK (c:Int) 0 5=true:=by unfold ah.aK;simp;omega
  rw[hd,this];simp
 have hb:S.aF c++bA a=bA a:=by rw[mQ];exact ByteArray.empty_append
 have hr:ee (bA a)=⟨#[]⟩:=by
  have hs:(ee (bA a)).size=0:=by unfold ee;rw[ByteArray.size_extract,a3];decide
  generalize ee (bA a)=r at *;obtain⟨d⟩:=r;rw[Array.size_eq_zero_iff.1 hs]
 have hf:fr (bA a) 0=bA a:=by unfold fr;rw[show 30*0+30=(bA a).size by rw[a3]];exact ByteArray.extract_zero_size
 unfold eW;rw[if_neg hw,show ((c:Int)).toNat=c by omega,hb,a3];show fZ (gw S c (bA a)) c (bA a) 1=_;unfold gw;rw[hr];show []++jY _ c (fr (bA a) 0)=_;rw[hf,List.nil_append];rfl
def gV:Ask:=⟨111,(0:Nat),2,1,0,100,5,7⟩
theorem Zd:eW (init 100 20000 100) (0:Nat) (bA (iP 0))=[]:=by obtain⟨l1,l2,_⟩:=Ve.AV (Im (c:=0) (by decide));rw[ams (by decide) (Im (by decide)) rfl rfl];unfold jY;rw[l1,l2,if_pos rfl,if_pos (by decide),if_neg (by decide)]
theorem amt:eW (di (init 100 20000 100) (0:Nat) (bA (iP 0))) (0:Nat) (bA gV)=[⟨(0:Nat),uz,7,0,0,0⟩]/\di (di (init 100 20000 100) (0:Nat) (bA (iP 0))) (0:Nat) (bA gV)=Ed (init 100 20000 100) 0 gV:=by have h1:=Ve.amu (init 100 20000 100) (0:Nat) (bA (iP 0)) (bA gV);obtain⟨g1,g2⟩:=amv (S:=init 100 20000 100) (c:=0) (by decide) gV (by decide) rfl rfl rfl rfl rfl rfl (by decide);rw[g1,g2,Zd,List.nil_append]at h1;exact⟨h1.2.symm,h1.1.symm⟩
theorem Ze{wd h:Int}{r:cQ}{i:Nat}(ho:Cv.eu (r.L i))(hv:∀p,Cv.fG (r.L i) p=0)(s:Int):
  (lH wd h r i s).L=r.L/\(lH wd h r i s).pl=r.pl/\(lH wd h r i s).rp=r.rp++r.pl.flatMap (jF r.L i):=by
 have hw:Cv.fj (r.L i) (r.n (i*2)) 1000 (gW r i) (mr r i):=yL ho _;have hV:mr r i=0:=by
  rcases hw with ⟨_,e2,_⟩ | ⟨e1,_,_,e4,_⟩
  .exact e2
  .rw[hv]at e4;omega
 have hF:fO wd r i s=[]:=by unfold fO Fl.mL;rw[hV,if_neg (by simp)]
 have hL:Fl.mK r.L i (fO wd r i s)=r.L:=by unfold Fl.mK;rw[hF,Fs.zY ho,pB]
 refine⟨hL,rfl,?_⟩;show r.rp++((fO wd r i s).map _++r.pl.flatMap (jF (Fl.mK r.L i (fO wd r i s)) i))=_;rw[hL,hF];rfl
def o9:Cv.af:=⟨7,0,0,100,5⟩
def k0:Nat->List Cv.af:=upd (fun _=>[]) 1 [o9]
theorem Zf(i:Nat):Cv.eu (k0 i)/\∀p,Cv.fG (k0 i) p=0:=by
 unfold k0 upd;split
 .refine⟨fun x hx=>by rw[List.mem_singleton.1 hx];decide,fun p=>?_⟩
  have h1:=(Cv.nz (Cv.iK p) [o9] (fun x hx=>by rw[List.mem_singleton.1 hx];decide)).1;have h2:Cv.jM [o9] p=0:=by simp[Cv.jM,Cv.dQ,Cv.sB,o9]
  unfold Cv.fG;rw[h2];have h3:0<=Cv.ji [o9] p:=h1;omega
 .exact⟨fun x hx=>(by cases hx),fun p=>rfl⟩
theorem amw{wd h seed:Int}{bt:Nat}{r:cQ}(hL:r.L=k0)(hp:r.pl=[gV])(hr:r.rp=[]):(fP wd h seed bt r 3).L=k0/\(fP wd h seed bt r 3).rp=[tell q7 o9]:=by
 have st:∀k,(fP wd h seed bt r k).L=k0/\(fP wd h seed bt r k).pl=[gV]/\(fP wd h seed bt r (k+1)).rp=(fP wd h seed bt r k).rp++jF k0 k gV:=fun k=>by
  induction k with
  | zero =>
   obtain⟨h1,h2⟩:=Zf 0;obtain⟨g1,g2,g3⟩:=Ze (wd:=wd) (h:=h) (r:=r) (i:=0) (by rw[hL];exact h1) (by rw[hL];exact h2) (p6 seed bt 0);exact⟨hL,hp,by show (lH wd h r 0 _).rp=_;rw[g3,hp,hL];simp[fP]⟩
  | succ k ih =>
   obtain⟨i1,i2,_⟩:=ih;have key:∀j s,(fP wd h seed bt r j).L=k0->(fP wd h seed bt r j).pl=[gV]->(lH wd h (fP wd h seed bt r j) j s).L=k0/\(lH wd h (fP wd h seed bt r j) j s).pl=[gV]/\(lH wd h (fP wd h seed bt r j) j s).rp=(fP wd h seed bt r j).rp++jF k0 j gV:=fun j s e1 e2=>by
    obtain⟨h1,h2⟩:=Zf j;obtain⟨g1,g2,g3⟩:=Ze (wd:=wd) (h:=h) (r:=fP wd h seed bt r j) (i:=j) (by rw[e1];exact h1) (by rw[e1];exact h2) s;exact⟨g1.trans e1,g2.trans e2,by rw[g3,e2,e1];simp⟩
   obtain⟨k1,k2,_⟩:=key k (p6 seed bt k) i1 i2;have Zg:(fP wd h seed bt r (k+1)).L=k0:=k1;have Zh:(fP wd h seed bt r (k+1)).pl=[gV]:=k2;exact⟨Zg,Zh,(key (k+1) (p6 seed bt (k+1)) Zg Zh).2.2⟩
 refine⟨(st 3).1,?_⟩;have e0:jF k0 0 gV=[]:=by decide
 have e2:jF k0 2 gV=[]:=by decide
 have e1:jF k0 1 gV=[tell q7 o9]:=by unfold jF;rw[if_pos (by decide)];rfl
 rw[(st 2).2.2,(st 1).2.2,(st 0).2.2,e0,e1,e2];show r.rp++[]++_++[]=_;rw[hr];rfl
theorem amx:Fl.eN (fun _=>[]) (Fl.jQ 20000 100 6) gV=0:=by decide
theorem amy{seed:Int}{S:St}(hL:S.L=fun _=>[])(hp:S.pf=Fl.jQ 20000 100 6):(iQ 10 2 seed S [] [gV]).L=k0/\(iQ 10 2 seed S [] [gV]).rp=[tell q7 o9]:=by
 have h0:Fl.eN S.L S.pf gV=0:=by rw[hL,hp];exact amx
 have e:j3 (jG (Ve.start S) [] 0) [gV] 1=uD (Ve.start S) gV:=by show k5 (Ve.start S) gV=_;unfold k5;exact if_pos rfl
 refine amw (r:=j3 (jG (Ve.start S) [] 0) [gV] 1) ?_ ?_ ?_
 .rw[e]
  show Fl.kK S.L S.pf gV=_;unfold Fl.kK;rw[if_pos h0,hL];rfl
 .rw[e]
  show (if Fl.eN S.L S.pf gV=0 then _ else _)=_;rw[if_pos h0];rfl
 .rw[e]
  show (if Fl.eN S.L S.pf gV=0 then _ else _)=_;rw[if_pos h0];rfl
def S2:St:=Ed (init 100 20000 100) 0 gV
theorem amz:df 10 2 0 S2 = { S2 with now:=1 }/\je 10 2 0 S2=[]:=by unfold df je;rw[if_neg (by decide),if_neg (by decide),if_neg (by decide),if_neg (by decide)];exact⟨rfl,rfl⟩
theorem amA:df 10 2 0 { S2 with now:=1 } = { S2 with now:=2 }/\je 10 2 0 { S2 with now:=1 }=[]:=by unfold df je;rw[if_neg (by decide),if_neg (by decide),if_neg (by decide),if_neg (by decide)];exact⟨rfl,rfl⟩
theorem amB:(df 10 2 0 { S2 with now:=2 }).L=k0/\je 10 2 0 { S2 with now:=2 }=[tell q7 o9]:=by
 have et:Ve.b9 { S2 with now:=2 } = { S2 with now:=3 }:=rfl;have hz:(cV { S2 with now:=3 }).size<=980:=by obtain⟨h1,h2⟩:=Ee S2.aY 6;exact Io 0 _ _ (by decide) h2 h1 (vZ S2.Q S2.t 6)
 have ha:lI (Ve.bV { S2 with now:=3 }) (cV { S2 with now:=3 })=true:=by
  unfold lI full;have:decide (1048576<(Ve.bV { S2 with now:=3 }).tp.length+(12+(cV { S2 with now:=3 }).size))=false:=by rw[decide_eq_false_iff_not];show ¬ 1048576<0+_;omega
  rw[this];rfl
 have hA:∀s,(bI (Ve.bV { S2 with now:=3 }) s).L=(fun _=>[])/\(bI (Ve.bV { S2 with now:=3 }) s).pf=Fl.jQ 20000 100 6:=fun s=>by
  unfold bI;split <;> exact⟨rfl,rfl⟩
 obtain⟨a1,a2⟩:=hA (cV { S2 with now:=3 });have hR:=amy (seed:=0) a1 a2;unfold df je;rw[if_neg (by decide),if_pos (by decide),if_neg (by decide),if_pos (by decide),et];unfold sD AX;rw[if_pos ha,if_pos ha];exact hR
theorem amC:(gL 10 2 0 S2 3).L=k0/\oZ 10 2 0 S2 3=[tell q7 o9]:=by
 obtain⟨a1,b1⟩:=amz;obtain⟨a2,b2⟩:=amA;obtain⟨a3,b3⟩:=amB;have e1:gL 10 2 0 S2 1 = { S2 with now:=1 }:=a1;have e2:gL 10 2 0 S2 2 = { S2 with now:=2 }:=by show df 10 2 0 (gL 10 2 0 S2 1)=_;rw[e1];exact a2
 refine⟨by show (df 10 2 0 (gL 10 2 0 S2 2)).L=_;rw[e2];exact a3,?_⟩;show (([]++je 10 2 0 S2)++je 10 2 0 (gL 10 2 0 S2 1))++je 10 2 0 (gL 10 2 0 S2 2)=_;rw[b1,e1,b2,e2,b3];rfl
end bg
namespace bg
open Ve
def Ip:List ByteArray:=[⟨#[108,111,103,105,110,32,48]⟩,⟨#[98,117,121,32,48,32,49,32,55,32,49,48,48,32,53]⟩,⟨#[116,105,99,107,32,51]⟩,⟨#[98,111,111,107,32,49]⟩]
def Ef:List ByteArray:=[⟨#[110,111,116,104,105,110,103]⟩,⟨#[97,99,99,101,112,116,101,100,58,48,58,55]⟩,⟨#[114,101,115,116,115,58,48,58,55,58,49,48,48,58,53,58,48]⟩,⟨#[55,58,48,58,48,58,49,48,48,58,53]⟩]
theorem hl0(P:Pl.St):cn P ⟨#[108,111,103,105,110,32,48]⟩=mV 108 P [0] ⟨#[]⟩:=Eg (c:=⟨[cZ],false,108⟩) (by kernel_rfl) (by kernel_rfl)
theorem hl1(P:Pl.St):cn P ⟨#[98,117,121,32,48,32,49,32,55,32,49,48,48,32,53]⟩=mV 0 P [0,1,7,100,5] ⟨#[]⟩:=Eg (c:=⟨[cZ,eG,num,gy,gy],false,0⟩) (by kernel_rfl) (by kernel_rfl)
theorem hl2(P:Pl.St):cn P ⟨#[116,105,99,107,32,51]⟩=mV 122 P [3] ⟨#[]⟩:=Eg (c:=⟨[(1,50)],false,122⟩) (by kernel_rfl) (by kernel_rfl)
theorem amD(P:Pl.St):cn P ⟨#[98,111,111,107,32,49]⟩=mV 124 P [1] ⟨#[]⟩:=Eg (c:=⟨[eG],false,124⟩) (by kernel_rfl) (by kernel_rfl)
theorem amE:Pl.kS dX 0 (hZ 108 [0])=[]/\Pl.g_ dX 0 (hZ 108 [0]) = { Pl.ja dX 0 108 with v:=di (init 100 20000 100) (0:Nat) (bA (iP 0)) }:=by
 unfold Pl.kS Pl.g_;have h:a_.ac (Pl.ask dX 0 (hZ 108 [0]))=0:=by decide
 rw[if_pos h,if_pos h];exact⟨Zd,rfl⟩
theorem amF:Pl.kS { Pl.ja dX 0 108 with v:=di (init 100 20000 100) (0:Nat) (bA (iP 0)) } 0 (hZ 0 [0,1,7,100,5])=[⟨(0:Nat),uz,7,0,0,0⟩]/\(Pl.g_ { Pl.ja dX 0 108 with v:=di (init 100 20000 100) (0:Nat) (bA (iP 0)) } 0 (hZ 0 [0,1,7,100,5])).v=S2:=by
 obtain⟨g1,g2⟩:=amt;generalize di (init 100 20000 100) (0:Nat) (bA (iP 0))=S1 at *;unfold Pl.kS Pl.g_;have h:a_.ac (Pl.ask { Pl.ja dX 0 108 with v:=S1 } 0 (hZ 0 [0,1,7,100,5]))=0:=show a_.ac gV=0 by decide
 rw[if_pos h,if_pos h];exact⟨g1,g2⟩
theorem amG:iH (([]:List dr).map fE)=(⟨#[110,111,116,104,105,110,103]⟩:ByteArray):=by kernel_rfl
theorem amH:iH (([⟨(0:Nat),uz,7,0,0,0⟩]:List dr).map fE)=(⟨#[97,99,99,101,112,116,101,100,58,48,58,55]⟩:ByteArray):=by kernel_rfl
theorem amI:iH ([tell q7 o9].map fE)=(⟨#[114,101,115,116,115,58,48,58,55,58,49,48,48,58,53,58,48]⟩:ByteArray):=by kernel_rfl
theorem amJ:iH ([o9].map ku)=(⟨#[55,58,48,58,48,58,49,48,48,58,53]⟩:ByteArray):=by kernel_rfl
theorem amK(et:Nat->ByteArray):gT et dX (fun i=>Ip.getD i ⟨#[]⟩) 4=Ef:=by
 obtain⟨a1,a2⟩:=amE;obtain⟨b1,b2⟩:=amF;obtain⟨c1,c2⟩:=amC;have e1:cn dX ⟨#[108,111,103,105,110,32,48]⟩=(((⟨#[110,111,116,104,105,110,103]⟩:ByteArray),none),{ Pl.ja dX 0 108 with v:=di (init 100 20000 100) (0:Nat) (bA (iP 0)) }):=by rw[hl0];show ((iH ((Pl.kS dX 0 (hZ 108 [0])).map fE),none),Pl.g_ dX 0 (hZ 108 [0]))=_;rw[a1,a2,amG]
 generalize at5:({ Pl.ja dX 0 108 with v:=di (init 100 20000 100) (0:Nat) (bA (iP 0)) }:Pl.St)=P1 at *;have e2:(cn P1 ⟨#[98,117,121,32,48,32,49,32,55,32,49,48,48,32,53]⟩).1=((⟨#[97,99,99,101,112,116,101,100,58,48,58,55]⟩:ByteArray),none)/\(cn P1 ⟨#[98,117,121,32,48,32,49,32,55,32,49,48,48,32,53]⟩).2.v=S2:=by rw[hl1];show (iH ((Pl.kS P1 0 (hZ 0 [0,1,7,100,5])).map fE),none)=_/\(Pl.g_ P1 0 (hZ 0 [0,1,7,100,5])).v=_;rw[b1,amH];exact⟨rfl,b2⟩
 generalize o7:(cn P1 ⟨#[98,117,121,32,48,32,49,32,55,32,49,48,48,32,53]⟩).2=yH at *;have e3:(cn yH ⟨#[116,105,99,107,32,51]⟩).1=((⟨#[114,101,115,116,115,58,48,58,55,58,49,48,48,58,53,58,48]⟩:ByteArray),none)/\(cn yH ⟨#[116,105,99,107,32,51]⟩).2.v.L=k0:=by rw[hl2];show (iH ((Ve.oZ 10 2 0 yH.v 3).map fE),none)=_/\(Ve.gL 10 2 0 yH.v 3).L=_;rw[e2.2,c2,amI];exact⟨rfl,c1⟩
 generalize yu:(cn yH ⟨#[116,105,99,107,32,51]⟩).2=P3 at *;have e4:(cn P3 ⟨#[98,111,111,107,32,49]⟩).1=((⟨#[55,58,48,58,48,58,49,48,48,58,53]⟩:ByteArray),none):=by rw[amD];show (iH ((P3.v.L 1).map ku),none)=_;rw[e3.2];show (iH ([o9].map ku),none)=_;rw[amJ]
 show ((([]++[mo et (cn dX ⟨#[108,111,103,105,110,32,48]⟩).1])++[mo et (cn (cn dX ⟨#[108,111,103,105,110,32,48]⟩).2 ⟨#[98,117,121,32,48,32,49,32,55,32,49,48,48,32,53]⟩).1])++[mo et (cn (cn (cn dX ⟨#[108,111,103,105,110,32,48]⟩).2 ⟨#[98,117,121,32,48,32,49,32,55,32,49,48,48,32,53]⟩).2 ⟨#[116,105,99,107,32,51]⟩).1])++[mo et (cn (cn (cn (cn dX ⟨#[108,111,103,105,110,32,48]⟩).2 ⟨#[98,117,121,32,48,32,49,32,55,32,49,48,48,32,53]⟩).2 ⟨#[116,105,99,107,32,51]⟩).2 ⟨#[98,111,111,107,32,49]⟩).1]=_;rw[e1];show ((([]++[mo et ((⟨#[110,111,116,104,105,110,103]⟩:ByteArray),none)])++[mo et (cn P1 ⟨#[98,117,121,32,48,32,49,32,55,32,49,48,48,32,53]⟩).1])++[mo et (cn (cn P1 ⟨#[98,117,121,32,48,32,49,32,55,32,49,48,48,32,53]⟩).2 ⟨#[116,105,99,107,32,51]⟩).1])++[mo et (cn (cn (cn P1 ⟨#[98,117,121,32,48,32,49,32,55,32,49,48,48,32,53]⟩).2 ⟨#[116,105,99,107,32,51]⟩).2 ⟨#[98,111,111,107,32,49]⟩).1]=_;rw[o7,yu,e2.1,e3.1,e4];rfl
end bg
section
open Go.RowKit
namespace bg
theorem sw.later{w w':World}{ad:Nat->Addr}{et:Nat->ByteArray}(h:sw w ad et)(hb:U w w'):sw w' ad et:=fun g hg=>cell_later hb (h g hg)
theorem YM(a1 a2:Option Addr)(n c1 c2:Nat)(l:List ByteArray)(w:World)(hl:Hid (l.length=n))(h1:Hid (jw w a1 l))(h2:Hid (jw w a2 l))(hn:n<=100000):
  Calls prog 40 #[.slice a1 n c1,.slice a2 n c2] w fun e w'=>e=.returned (.bool true)/\U w w':=by
 go_enter func40,ntmps40;go_wp2
 go_loopw [5] (fun iv wr=>∃k:Nat,k<=n/\iv=Z k/\U w wr) (fun iv _=>n-(intOf iv).toNat)
 case atStart=>exact⟨0,by omega,rfl,bRq _ _⟩
 case round =>
  obtain⟨k,hk,rfl,hb⟩:=hrel;have HB:=Y hb;clear hb;by_cases hlt:k<n
  .have aT:(k:Int)<n:=by omega
   obtain⟨d,hd⟩:∃d,l[k]?=some d:=⟨_,List.getElem?_eq_getElem (by rw[hl.out];exact hlt)⟩;obtain⟨g1,rfl,e1⟩:=(h1.later HB) k d hd;obtain⟨g2,rfl,e2⟩:=(h2.later HB) k d hd;clear hd;go_wp2
   go_quiet (fail)
   go_wp2;exact⟨⟨k+1,by omega,by go_num,HB.trans ((dN nq).mono HB.size)⟩,by simp[intOf];omega⟩
  .have aT:¬ (k:Int)<n:=by omega
   go_wp2;go_ret;exact⟨rfl,HB⟩
theorem ZO(W:World)(l:List ByteArray)(hm:l.length<=1000):(W.alloc (.cells (f_ (fun x=>x) l).toArray 9)).ownsRow W.heap.size 9 1 (.slice (some (O W.heap.size 0)) l.length l.length) l.length (f_ (fun x=>x) l) :=
 ⟨by simp[f_],.inr ⟨W.heap.size,l.length,(f_ (fun x=>x) l).toArray,rfl,E _,hNq W _,E _,by unfold maxLen;omega,by simp[f_],by rw[List.take_of_length_le (by simp[f_])]⟩⟩
section
variable {ad:Nat->Addr} {et:Nat->ByteArray}
theorem YI(W:World)(hs:Hid (bJ W ad))(hbt:Hid (iF W))(hL:Hid (ik W))(hT:Hid (sw W ad et)):
  Calls prog 33 #[] W fun e w'=>e=.returned (.bool true)/\U W w':=by
 have hb1:U W (W.alloc (.cells (f_ (fun x=>x) Ip).toArray 9)):=aj;have rR:=Y (Ge (et:=et) (some (O W.heap.size 0)) 4 4 Ip W.heap.size _ (Y (hs.later hb1)) (Y (hbt.later hb1)) (Y (hL.later hb1)) (Y (hT.later hb1)) (Y rfl) (Y (ZO W Ip (by decide))) (Y (by decide)) (by decide));rw[amK]at rR;have HB1:=Y hb1;clear hb1;go_enter func33,ntmps33
 go_wp2_with fail
 refine rR.mono ?_;rintro e w2 ⟨v,rfl,hr2,hb2⟩;have iW:=ar HB1 hb2;obtain⟨uw,cv,rfl⟩:=fA hr2;have hb3:U w2 (w2.alloc (.cells (f_ (fun x=>x) Ef).toArray 9)):=aj;have av:=Y (ar iW hb3);have anD:=Y (YM uw (some (O w2.heap.size 0)) 4 cv 4 Ef _ (Y rfl) (Y ((jw.of (l:=Ef) hr2).later hb3)) (Y (jw.of (ZO w2 Ef (by decide)))) (by decide));clear hr2 hb2 iW hb3;simp only[]
 go_wp2_with fail
 refine anD.mono ?_;rintro e w4 ⟨rfl,hb4⟩;have bS:=Y (ar av hb4);clear hb4;simp only[];go_wp2;go_ret;exact⟨rfl,bS⟩
end
end bg
end
end Go.Proofs.YtjolccidheflpaaGreatDoor
