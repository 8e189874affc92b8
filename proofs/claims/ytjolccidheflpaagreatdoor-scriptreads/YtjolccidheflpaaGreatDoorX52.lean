/- Forms of commands, by their contract. -/
import Derived.Test.YtjolccidheflpaaGreatDoorX51
import Derived.Test.YtjolccidheflpaaGreatDoorX18
namespace Go.Proofs.YtjolccidheflpaaGreatDoor
open Go.Proofs.Tryz
set_option maxHeartbeats 8000000
set_option maxRecDepth 100000
section
open Go.RowKit
namespace bg
theorem amq{n:ByteArray}{c:mW}(h:tab n=some c):n=⟨#[108,111,103,105,110]⟩\/n=⟨#[98,101,97,116]⟩\/n=⟨#[108,111,103,111,117,116]⟩\/n=⟨#[98,117,121]⟩\/n=⟨#[115,101,108,108]⟩\/n=⟨#[99,97,110,99,101,108]⟩\/n=⟨#[116,105,99,107]⟩\/n=⟨#[98,121,116,101,115]⟩\/n=⟨#[98,111,111,107]⟩\/n=⟨#[98,97,110,100]⟩\/n=⟨#[104,97,115]⟩\/n=⟨#[99,117,116]⟩\/n=⟨#[97,103,97,105,110]⟩\/n=⟨#[98,97,116,99,104,101,115]⟩:=by unfold tab at h;obtain⟨x,hx,rfl⟩:=Option.map_eq_some_iff.1 h;have hm:=List.mem_of_find?_eq_some hx;have he:=List.find?_some hx;have uy:x.1=n:=of_decide_eq_true he;simp only[cmds,List.map_cons,List.map_nil,List.mem_cons,List.not_mem_nil,or_false]at hm;rcases hm with rfl | rfl | rfl | rfl | rfl | rfl | rfl | rfl | rfl | rfl | rfl | rfl | rfl | rfl <;> subst uy <;> simp only[true_or,or_true]
theorem nU{n:ByteArray}{l:List UInt8}(h:¬ n=⟨l.toArray⟩):(n.toList==l)=false:=by rw[beq_eq_false_iff_ne,ByteArray.toList_eq];exact fun e=>h (by obtain⟨d⟩:=n;subst e;rfl)
def amr(n fm:ByteArray)(is:Bool):Prop:=(tab n=none/\is=false)\/∃c,tab n=some c/\is=true/\fm.size=c.sp.length
theorem Zb(n:ByteArray)(W:World):Calls prog 36 #[.string n] W fun e w'=>∃fm is,e=.returned (.tuple #[.string fm,.bool is])/\w'=W/\amr n fm is:=by
 cases ht:tab n with
 | some c =>
  rcases amq ht with rfl | rfl | rfl | rfl | rfl | rfl | rfl | rfl | rfl | rfl | rfl | rfl | rfl | rfl
  all_goals
   have HT:=Y ht;clear ht;go_enter func36,ntmps36;go_wp2;go_ret2;refine⟨_,_,rfl,rfl,.inr ⟨c,HT,rfl,?_⟩⟩;have h:=HT.out;cases h;rfl
 | none =>
  have n0:(n.toList==[108,111,103,105,110])=false:=nU (fun e=>by subst e;cases ht);have n1:(n.toList==[98,101,97,116])=false:=nU (fun e=>by subst e;cases ht);have n2:(n.toList==[108,111,103,111,117,116])=false:=nU (fun e=>by subst e;cases ht);have n3:(n.toList==[98,117,121])=false:=nU (fun e=>by subst e;cases ht);have n4:(n.toList==[115,101,108,108])=false:=nU (fun e=>by subst e;cases ht);have n5:(n.toList==[99,97,110,99,101,108])=false:=nU (fun e=>by subst e;cases ht);have n6:(n.toList==[116,105,99,107])=false:=nU (fun e=>by subst e;cases ht);have n7:(n.toList==[98,121,116,101,115])=false:=nU (fun e=>by subst e;cases ht);have n8:(n.toList==[98,111,111,107])=false:=nU (fun e=>by subst e;cases ht);have n9:(n.toList==[98,97,110,100])=false:=nU (fun e=>by subst e;cases ht);have n10:(n.toList==[104,97,115])=false:=nU (fun e=>by subst e;cases ht);have n11:(n.toList==[99,117,116])=false:=nU (fun e=>by subst e;cases ht);have n12:(n.toList==[97,103,97,105,110])=false:=nU (fun e=>by subst e;cases ht);have n13:(n.toList==[98,97,116,99,104,101,115])=false:=nU (fun e=>by subst e;cases ht);have HT:=Y ht;clear ht;go_enter func36,ntmps36;go_wp2;go_ret2;exact⟨_,_,rfl,rfl,.inl ⟨HT,rfl⟩⟩
theorem Zc(W:World):Calls prog 37 #[Z 1] W fun e w'=>e=.returned (.string ⟨(pX 0).toArray⟩)/\U W w':=by go_enter func37,ntmps37;go_wp2;go_ret;exact⟨rfl,aj⟩
end bg
theorem alW(n:Nat)(hn:n<=12)(ad:Nat->Addr)(w:World)(hs:Hid (bJ w ad)):Calls prog 35 #[fq ad n,Z n] w fun e w'=>e=.returned (.bool true)/\U w w':=by
 have HC:=Y (O4 n hn ad w hs);generalize fq ad n=u at *;go_enter func35,ntmps35
 go_wp2_with fail
 refine HC.mono ?_;rintro e w1 ⟨rfl,hb1⟩;simp only[];go_wp2;go_ret;exact⟨rfl,hb1⟩
namespace bg
def alX(x:Int)(e:Ending):Prop:=∃b,e=.returned (.bool b)/\(b=true->0<=x/\x<=9999999)
theorem alY(f:Nat)(x:Int)(W:World):Calls prog 74 #[.int .u8 f,Z x] W fun e w'=>alX x e/\w'=W:=by
 by_cases atW:(f:Int)=99
 .by_cases h0:(0:Int)<=x
  .by_cases h6:x<6
   .go_enter func74,ntmps74
    go_wp2;go_ret;exact⟨⟨_,rfl,fun _=>⟨by omega,by omega⟩⟩,rfl⟩
   .go_enter func74,ntmps74
    go_wp2;go_ret;exact⟨⟨_,rfl,fun h=>by cases h⟩,rfl⟩
  .go_enter func74,ntmps74
   go_wp2;go_ret;exact⟨⟨_,rfl,fun h=>by cases h⟩,rfl⟩
 by_cases c105:(f:Int)=105
 .by_cases h0:(0:Int)<=x
  .by_cases h6:x<3
   .go_enter func74,ntmps74
    go_wp2;go_ret;exact⟨⟨_,rfl,fun _=>⟨by omega,by omega⟩⟩,rfl⟩
   .go_enter func74,ntmps74
    go_wp2;go_ret;exact⟨⟨_,rfl,fun h=>by cases h⟩,rfl⟩
  .go_enter func74,ntmps74
   go_wp2;go_ret;exact⟨⟨_,rfl,fun h=>by cases h⟩,rfl⟩
 by_cases atX:(f:Int)=112
 .by_cases h0:(1:Int)<=x
  .by_cases h6:x<=1000
   .go_enter func74,ntmps74
    go_wp2;go_ret;exact⟨⟨_,rfl,fun _=>⟨by omega,by omega⟩⟩,rfl⟩
   .go_enter func74,ntmps74
    go_wp2;go_ret;exact⟨⟨_,rfl,fun h=>by cases h⟩,rfl⟩
  .go_enter func74,ntmps74
   go_wp2;go_ret;exact⟨⟨_,rfl,fun h=>by cases h⟩,rfl⟩
 by_cases atY:(f:Int)=113
 .by_cases h0:(1:Int)<=x
  .by_cases h6:x<=1000
   .go_enter func74,ntmps74
    go_wp2;go_ret;exact⟨⟨_,rfl,fun _=>⟨by omega,by omega⟩⟩,rfl⟩
   .go_enter func74,ntmps74
    go_wp2;go_ret;exact⟨⟨_,rfl,fun h=>by cases h⟩,rfl⟩
  .go_enter func74,ntmps74
   go_wp2;go_ret;exact⟨⟨_,rfl,fun h=>by cases h⟩,rfl⟩
 by_cases c116:(f:Int)=116
 .by_cases h0:(1:Int)<=x
  .by_cases h6:x<=50
   .go_enter func74,ntmps74
    go_wp2;go_ret;exact⟨⟨_,rfl,fun _=>⟨by omega,by omega⟩⟩,rfl⟩
   .go_enter func74,ntmps74
    go_wp2;go_ret;exact⟨⟨_,rfl,fun h=>by cases h⟩,rfl⟩
  .go_enter func74,ntmps74
   go_wp2;go_ret;exact⟨⟨_,rfl,fun h=>by cases h⟩,rfl⟩
 by_cases h0:(0:Int)<=x
 .by_cases h6:x<=9999999
  .go_enter func74,ntmps74
   go_wp2;go_ret;exact⟨⟨_,rfl,fun _=>⟨by omega,by omega⟩⟩,rfl⟩
  .go_enter func74,ntmps74
   go_wp2;go_ret;exact⟨⟨_,rfl,fun h=>by cases h⟩,rfl⟩
 .go_enter func74,ntmps74
  go_wp2;go_ret;exact⟨⟨_,rfl,fun h=>by cases h⟩,rfl⟩
end bg
end
namespace bg
theorem Pm(s:List UInt8)(c:UInt8)(j:Nat):Lib.occAt s [c] j=(s[j]?==some c):=by
 unfold Lib.occAt;have h:s[j]?=(s.drop j)[0]?:=by rw[List.getElem?_drop];simp
 rw[h];cases s.drop j with
 | nil=>rfl
 | cons b l=>simp[List.isPrefixOf,Bool.beq_comm]
theorem amV{s:ByteArray}{k:Nat}(hk:k<=s.size)(hn:∀j,j<k->s.data.toList[j]?≠some 32)(he:k=s.size\/s.data.toList[k]?=some 32):nameOf s=⟨(s.data.toList.take k).toArray⟩:=by
 have hl:s.data.toList.length=s.size:=rfl;have h1:(Lib.cut s.data.toList [32]).1=s.data.toList.take k:=by
  unfold Lib.cut;rcases he with rfl | he
  .have:Lib.index s.data.toList [32] = -1:=Lib.index_none (fun j hj=>by
    rw[Pm];by_cases GU:j<s.size
    .simpa using hn j GU
    .rw[List.getElem?_eq_none (by omega)];rfl)
   rw[this,if_neg (by decide),List.take_of_length_le (by omega)]
  .have:Lib.index s.data.toList [32]=k:=Lib.index_first (by omega) (by rw[Pm,he];rfl) (fun j hj=>by rw[Pm];simpa using hn j hj)
   rw[this,if_pos (by omega)];simp
 unfold nameOf aZ;rw[h1]
theorem amW{s:List UInt8}{k:Nat}{b:UInt8}(h:s[k]?=some b):(s.take (k+1)).count 32=(s.take k).count 32+(if b=32 then 1 else 0):=by rw[List.take_add_one,h,List.count_append];simp[List.count_singleton]
theorem YK{et:Nat->ByteArray}{P:Pl.St}{f g:Nat->ByteArray}:∀k,(∀i,i<k->f i=g i)->nW P f k=nW P g k/\gT et P f k=gT et P g k
 | 0,_=>⟨rfl,rfl⟩
 | k+1,h=>by
  obtain⟨h1,h2⟩:=YK (et:=et) (P:=P) k (fun i hi=>h i (by omega));have h3:=h k (by omega);exact⟨by show (cn (nW P f k) (f k)).2=_;rw[h1,h3];rfl,by show gT et P f k++[mo et (cn (nW P f k) (f k)).1]=_;rw[h1,h2,h3];rfl⟩
theorem OW(et:Nat->ByteArray)(P:Pl.St)(f:Nat->ByteArray):∀k j,j<=k->(gT et P f k).take j=gT et P f j
 | 0,j,h=>by
  obtain rfl:j=0:=by omega
  rfl
 | k+1,j,h=>by
  show (gT et P f k++[_]).take j=_;by_cases hj:j<=k
  .rw[List.take_append_of_le_length (by rw[sx];exact hj)]
   exact OW et P f k j hj
  .obtain rfl:j=k+1:=by omega
   rw[List.take_of_length_le (by rw[lAq,sx];simp)];rfl
end bg
namespace bg
def IX(W:World)(g:Nat):ByteArray:=match W.cell? (mb W g) with
 | some (.string s)=>s
 | _=>⟨#[]⟩
theorem ZZ{W:World}(h0:laidMet prog (qP++wU) W):sw W (mb W) (IX W)/\IX W 0=⟨(pX 0).toArray⟩:=by
 have h2:=h0.filter (fun x=>!(x.1 == "strconv.ErrRange" || x.1 == "strconv.ErrSyntax" || x.1 == "unicode/utf8.first"));have e:((qP++wU).filter (fun x=>!(x.1 == "strconv.ErrRange" || x.1 == "strconv.ErrSyntax" || x.1 == "unicode/utf8.first")))=qP:=by kernel_rfl
 rw[e]at h2;have h:=h2;have key:∀g,g<12->∃(a:Addr) (s:ByteArray),W.cell? ⟨BQ g,0,none⟩=some (.iface 412 (.pointer (some a)))/\W.cell? a=some (.string s)/\s.data.toList=pX g/\∃c t,W.heap[a.block]?=some (.cells c t (0,0)):=by
  intro g hg
  match g,hg with
  | 0,_=>exact iE h (g:=0) (by kernel_rfl) (by kernel_rfl)
  | 1,_=>exact iE h.tail (g:=1) (by kernel_rfl) (by kernel_rfl)
  | 2,_=>exact iE h.tail.tail (g:=3) (by kernel_rfl) (by kernel_rfl)
  | 3,_=>exact iE h.tail.tail.tail (g:=4) (by kernel_rfl) (by kernel_rfl)
  | 4,_=>exact iE h.tail.tail.tail.tail (g:=5) (by kernel_rfl) (by kernel_rfl)
  | 5,_=>exact iE h.tail.tail.tail.tail.tail (g:=6) (by kernel_rfl) (by kernel_rfl)
  | 6,_=>exact iE h.tail.tail.tail.tail.tail.tail (g:=7) (by kernel_rfl) (by kernel_rfl)
  | 7,_=>exact iE h.tail.tail.tail.tail.tail.tail.tail (g:=8) (by kernel_rfl) (by kernel_rfl)
  | 8,_=>exact iE h.tail.tail.tail.tail.tail.tail.tail.tail (g:=2) (by kernel_rfl) (by kernel_rfl)
  | 9,_=>exact iE h.tail.tail.tail.tail.tail.tail.tail.tail.tail (g:=9) (by kernel_rfl) (by kernel_rfl)
  | 10,_=>exact iE h.tail.tail.tail.tail.tail.tail.tail.tail.tail.tail (g:=10) (by kernel_rfl) (by kernel_rfl)
  | 11,_=>exact iE h.tail.tail.tail.tail.tail.tail.tail.tail.tail.tail.tail (g:=11) (by kernel_rfl) (by kernel_rfl)
 have at_:∀g,g<12->∃s,W.cell? (mb W g)=some (.string s)/\s.data.toList=pX g:=fun g hg=>by
  obtain⟨a,s,h1,h2,h3,_⟩:=key g hg;have:mb W g=a:=by unfold mb;rw[h1]
  exact⟨s,by rw[this];exact h2,h3⟩
 refine⟨fun g hg=>?_,?_⟩
 .obtain⟨s,h1,_⟩:=at_ g hg
  unfold IX;rw[h1]
 .obtain⟨s,h1,h2⟩:=at_ 0 (by decide)
  unfold IX;rw[h1];simp only;rw[<- h2]
end bg
end Go.Proofs.YtjolccidheflpaaGreatDoor
