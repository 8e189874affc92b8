/- The small calls of a venue by their contracts. -/
import Derived.Test.YtjolccidheflpaaGreatDoorV35
import Derived.Test.YtjolccidheflpaaGreatDoorV34
import Derived.Test.YtjolccidheflpaaGreatDoorV36
import Derived.Test.YtjolccidheflpaaGreatDoorV25
import Derived.Test.YtjolccidheflpaaGreatDoorV12
import Derived.Deep.RegionWith
import Derived.BigRegion
import Derived.Test.YtjolccidheflpaaGreatDoorV08
import Derived.Test.YtjolccidheflpaaGreatDoorV30
import Derived.Test.YtjolccidheflpaaGreatDoorV13
import Derived.Test.YtjolccidheflpaaGreatDoorV20
import Derived.Test.YtjolccidheflpaaGreatDoorV29
import Derived.Test.YtjolccidheflpaaGreatDoorV32
import Derived.Test.YtjolccidheflpaaGreatDoorV10
namespace Go.Proofs.YtjolccidheflpaaGreatDoor
set_option maxHeartbeats 8000000
open Go.RowKit
set_option maxRecDepth 100000
def wJ (ad:Nat->Addr) (j:Nat):Value:=.pointer (some (ad j))
theorem XQ {W:World} {R:Nat} {t:TypeId} {x0 x1 x2 x3 x4 x5:Value} (hz:W.heap[R]?=some (.cells #[x0,x1,x2,x3,x4,x5] t (0,0))) (v0 v1 v2 v3 v4 v5:Value) :
  ((((((W.setCell ⟨R,0,none⟩ v0).setCell ⟨R,1,none⟩ v1).setCell ⟨R,2,none⟩ v2).setCell ⟨R,3,none⟩ v3).setCell ⟨R,4,none⟩ v4).setCell ⟨R,5,none⟩ v5).heap[R]?=some (.cells #[v0,v1,v2,v3,v4,v5] t (0,0)):=by
 rw[block_setCell (block_setCell (block_setCell (block_setCell (block_setCell (block_setCell hz 0 v0) 1 v1) 2 v2) 3 v3) 4 v4) 5 v5];rfl
theorem XR {n R:Nat} {w W:World} (h:Below n w W) (hR:n<=R) (v0 v1 v2 v3 v4 v5:Value):Below n w ((((((W.setCell ⟨R,0,none⟩ v0).setCell ⟨R,1,none⟩ v1).setCell ⟨R,2,none⟩ v2).setCell ⟨R,3,none⟩ v3).setCell ⟨R,4,none⟩ v4).setCell ⟨R,5,none⟩ v5):=by
 iterate 6 refine Below.setCell (p:=⟨R,_,none⟩) ?_ hR _
 exact h
section
variable {w W:World} {ad:Nat->Addr} {B:cz} {X:cm} {wd h seed:Int} {S:af.St}
theorem cP.Cu (h:cP w ad):dR w (wJ ad):=⟨h.cell 1 (by decide),h.cell 2 (by decide),h.cell 3 (by decide),h.cell 5 (by decide),h.cell 6 (by decide),h.cell 7 (by decide),h.cell 9 (by decide),h.cell 11 (by decide)⟩
def kP (r:af.jo):Array Value:=#[.int .i64 r.c,.string r.k,.int .i64 r.id,.int .i64 r.pr,.int .i64 r.q,.int .i64 r.cd]
def C4 (r:af.jo):Value:=.agg (kP r)
theorem aG.sent (H:aG w W B X wd h seed S) (hs:cP w ad):cP W ad:=hs.later H.dv
theorem iU:Below W.heap.size W W.drew:=⟨rfl,rfl,rfl,lRq _,fun _ _=>rfl⟩
theorem akt (W:World) (H:aG w W B X wd h seed S):Calls Tryz.prog 19 #[.pointer (some ⟨B.V,0,none⟩)] W fun e w'=>e=.returned (.pointer (some ⟨B.d,0,none⟩))∧w'=W:=by
 have c:W.cell? ⟨B.V,3,none⟩=some (.pointer (some ⟨B.d,0,none⟩)):=H.at 3;clear H;go_enter Tryz.func19,Tryz.ntmps19;go_wp2;go_ret;exact⟨rfl,rfl⟩
theorem aku (W:World) (H:aG w W B X wd h seed S):Calls Tryz.prog 25 #[.pointer (some ⟨B.V,0,none⟩)] W fun e w'=>e=.returned (.int .i64 S.bt)∧w'=W:=by
 have c:W.cell? ⟨B.V,35,none⟩=some (.int .i64 S.bt):=H.at 35;clear H;go_enter Tryz.func25,Tryz.ntmps25;go_wp2;go_ret;exact⟨rfl,rfl⟩
theorem akv (W:World) (H:aG w W B X wd h seed S):Calls Tryz.prog 26 #[.pointer (some ⟨B.V,0,none⟩)] W fun e w'=>e=.returned (.int .i64 S.now)∧w'=W:=by
 have c:W.cell? ⟨B.V,34,none⟩=some (.int .i64 S.now):=H.at 34;clear H;go_enter Tryz.func26,Tryz.ntmps26;go_wp2;go_ret;exact⟨rfl,rfl⟩
theorem akw (S S':af.St) (n:Nat) (x:Bool) (h0:S'.on=upd S.on n x) (h1:S'.bN=S.bN) (h2:S'.la=S.la) (h3:S'.bk=S.bk) (h4:S'.aJ=S.aJ) (c' j':Nat) (hj:j'<5):fK S' c' j'=if c'=n∧j'=0 then .bool x else fK S c' j':=by
 have:j'=0∨j'=1∨j'=2∨j'=3∨j'=4:=by omega
 rcases this with rfl | rfl | rfl | rfl | rfl <;> simp[fK,h0,h1,h2,h3,h4]
 unfold upd;split <;> simp_all
theorem akx (S S':af.St) (n:Nat) (x:Int) (h0:S'.on=S.on) (h1:S'.bN=upd S.bN n x) (h2:S'.la=S.la) (h3:S'.bk=S.bk) (h4:S'.aJ=S.aJ) (c' j':Nat) (hj:j'<5):fK S' c' j'=if c'=n∧j'=1 then .int .i64 x else fK S c' j':=by
 have:j'=0∨j'=1∨j'=2∨j'=3∨j'=4:=by omega
 rcases this with rfl | rfl | rfl | rfl | rfl <;> simp[fK,h0,h1,h2,h3,h4]
 unfold upd;split <;> simp_all
theorem aky (S S':af.St) (n:Nat) (x:Int) (h0:S'.on=S.on) (h1:S'.bN=S.bN) (h2:S'.la=upd S.la n x) (h3:S'.bk=S.bk) (h4:S'.aJ=S.aJ) (c' j':Nat) (hj:j'<5):fK S' c' j'=if c'=n∧j'=2 then .int .i64 x else fK S c' j':=by
 have:j'=0∨j'=1∨j'=2∨j'=3∨j'=4:=by omega
 rcases this with rfl | rfl | rfl | rfl | rfl <;> simp[fK,h0,h1,h2,h3,h4]
 unfold upd;split <;> simp_all
theorem ajq (S S':af.St) (n:Nat) (x:ByteArray) (h0:S'.on=S.on) (h1:S'.bN=S.bN) (h2:S'.la=S.la) (h3:S'.bk=upd S.bk n x) (h4:S'.aJ=S.aJ) (c' j':Nat) (hj:j'<5):fK S' c' j'=if c'=n∧j'=3 then .string x else fK S c' j':=by
 have:j'=0∨j'=1∨j'=2∨j'=3∨j'=4:=by omega
 rcases this with rfl | rfl | rfl | rfl | rfl <;> simp[fK,h0,h1,h2,h3,h4]
 unfold upd;split <;> simp_all
theorem Oc (S S':af.St) (n:Nat) (x:Bool) (h1:S'.on=S.on) (h2:S'.bN=S.bN) (h3:S'.la=S.la) (h4:S'.bk=S.bk) (h5:S'.aJ=upd S.aJ n x) (c' j':Nat) (hj:j'<5):fK S' c' j'=if c'=n∧j'=4 then .bool x else fK S c' j':=by
 have:j'=0∨j'=1∨j'=2∨j'=3∨j'=4:=by omega
 rcases this with rfl | rfl | rfl | rfl | rfl <;> simp[fK,h1,h2,h3,h4,h5]
 unfold upd;split <;> simp_all
theorem ajt (n:Nat) (hn:n<6) (W:World) (H:Hid (aG w W B X wd h seed S)):Calls Tryz.prog 132 #[.pointer (some ⟨B.V,0,none⟩),.int .i64 n] W fun e w'=>e=.returned (.tuple #[])∧∃ X',aG w w' B X' wd h seed (af.leave S n)∧bV W w' B X X':=by
 have c:W.cell? ⟨B.V,2,none⟩=some (.pointer (some ⟨B.q,0,none⟩)):=H.out.at 2;have HC:=hDq (afI n W H.out.it);go_enter Tryz.func132,Tryz.ntmps132
 go_wp2_with fail
 refine HC.out.mono ?_;rintro e w2 ⟨rfl,fD,hi,hq⟩;obtain⟨h1,h2⟩:=H.out.take hi hq;have H1:=hDq h1;have H2:=hDq h2;clear hi hq h1 h2 HC;have c4:=H1.out.conn hn (j:=4) (by decide);have f4:=H1.out.free (4+n*5+4);simp only[fK]at c4;simp only[];go_wp2;go_end0;obtain⟨h3,h4⟩:=H1.out.set (S':=af.leave S n) hn (j:=4) (by decide) (.bool true) (fun c' j' _ i7=>Oc { S with Q:=aD.pB S.Q n } (af.leave S n) n true rfl rfl rfl rfl rfl c' j' i7) rfl rfl rfl ⟨rfl,rfl,rfl,rfl,rfl,rfl,rfl,rfl⟩;exact⟨rfl,_,h3,H2.out.trans h4⟩
theorem akz (c id:Int) (n:Nat) (hn:n<=12) (W:World) (hs:Hid (cP W ad)):Calls Tryz.prog 166 #[.int .i64 c,.int .i64 id,ja ad n] W fun e w'=>e=.returned (C4 (af.kr c id n))∧Below W.heap.size W w':=by
 go_enter Tryz.func166,Tryz.ntmps166
 go_wp2_with fail
 have bD:Hid (Below W.heap.size W (W.alloc (.cells #[.int .i64 0,.string ⟨#[]⟩,.int .i64 0,.int .i64 0,.int .i64 0,.int .i64 0] 121))):=(bRq _ _).alloc (lRq _) _;have GG:=hDq (hNq W (.cells #[.int .i64 0,.string ⟨#[]⟩,.int .i64 0,.int .i64 0,.int .i64 0,.int .i64 0] 121));refine(W9 n hn ad _ (hs.out.later bD.out)).mono ?_;rintro e w2 ⟨rfl,hb2⟩;have HB2:=hDq (bD.out.trans (hb2.mono bD.out.size));have kX:=hDq (iT hb2 GG.out);clear hb2;have c0:w2.cell? ⟨W.heap.size,0,none⟩=some (.int .i64 0):=by rw[cR _ _ 0 _ _ _ kX.out];rfl
 have c1:w2.cell? ⟨W.heap.size,1,none⟩=some (.string ⟨#[]⟩):=by rw[cR _ _ 1 _ _ _ kX.out];rfl
 have c2:w2.cell? ⟨W.heap.size,2,none⟩=some (.int .i64 0):=by rw[cR _ _ 2 _ _ _ kX.out];rfl
 have c3:w2.cell? ⟨W.heap.size,3,none⟩=some (.int .i64 0):=by rw[cR _ _ 3 _ _ _ kX.out];rfl
 have c4:w2.cell? ⟨W.heap.size,4,none⟩=some (.int .i64 0):=by rw[cR _ _ 4 _ _ _ kX.out];rfl
 have c5:w2.cell? ⟨W.heap.size,5,none⟩=some (.int .i64 0):=by rw[cR _ _ 5 _ _ _ kX.out];rfl
 have fz:∀ j,w2.frozen? ⟨W.heap.size,j,none⟩=false:=fun j=>by simp[World.frozen?,kX.out]
 simp only[];go_wp2;have HX:=hDq (XQ kX.out (.int .i64 c) (.string af.CF) (.int .i64 id) (.int .i64 0) (.int .i64 0) (.int .i64 n));have eO:=hDq (XR HB2.out (lRq W.heap.size) (.int .i64 c) (.string af.CF) (.int .i64 id) (.int .i64 0) (.int .i64 0) (.int .i64 n));unfold af.CF at HX eO;generalize (((((w2.setCell ⟨W.heap.size,0,none⟩ (.int .i64 c)).setCell ⟨W.heap.size,1,none⟩ _).setCell ⟨W.heap.size,2,none⟩ (.int .i64 id)).setCell ⟨W.heap.size,3,none⟩ (.int .i64 0)).setCell ⟨W.heap.size,4,none⟩ (.int .i64 0)).setCell ⟨W.heap.size,5,none⟩ (.int .i64 n)=w3 at *;have R:∀ j,w3.cell? ⟨W.heap.size,j,none⟩=_:=fun j=>cR w3 _ j _ 121 _ HX.out;refine bodyPost_ret (v:=C4 (af.kr c id n)) (by simp[results,Tryz.results166,go_sem,R,C4,kP,af.kr,af.CF]) rfl ⟨rfl,eO.out⟩
def wP (S:af.St) (n:Nat) (o:Bool) (x l:Int):af.St:={ S with on:=upd S.on n o,bN:=upd S.bN n x,la:=upd S.la n l }
theorem aG.ajp (H:aG w W B X wd h seed S) {n:Nat} (hn:n<6) (o:Bool) (x l:Int) :
  aG w (((W.setCell ⟨B.V,4+n*5,none⟩ (.bool o)).setCell ⟨B.V,4+n*5+1,none⟩ (.int .i64 x)).setCell ⟨B.V,4+n*5+2,none⟩ (.int .i64 l)) B X wd h seed (wP S n o x l)∧bV W (((W.setCell ⟨B.V,4+n*5,none⟩ (.bool o)).setCell ⟨B.V,4+n*5+1,none⟩ (.int .i64 x)).setCell ⟨B.V,4+n*5+2,none⟩ (.int .i64 l)) B X X:=by
 obtain⟨a1,a2⟩:=H.set (S':={ S with on:=upd S.on n o }) hn (j:=0) (by decide) (.bool o) (fun c' j' _ i7=>akw S { S with on:=upd S.on n o } n o rfl rfl rfl rfl rfl c' j' i7) rfl rfl rfl ⟨rfl,rfl,rfl,rfl,rfl,rfl,rfl,rfl⟩;obtain⟨b1,b2⟩:=a1.set (S':={ S with on:=upd S.on n o,bN:=upd S.bN n x }) hn (j:=1) (by decide) (.int .i64 x) (fun c' j' _ i7=>akx { S with on:=upd S.on n o } { S with on:=upd S.on n o,bN:=upd S.bN n x } n x rfl rfl rfl rfl rfl c' j' i7) rfl rfl rfl ⟨rfl,rfl,rfl,rfl,rfl,rfl,rfl,rfl⟩;obtain⟨d1,d2⟩:=b1.set (S':=wP S n o x l) hn (j:=2) (by decide) (.int .i64 l) (fun c' j' _ i7=>aky { S with on:=upd S.on n o,bN:=upd S.bN n x } (wP S n o x l) n l rfl rfl rfl rfl rfl c' j' i7) rfl rfl rfl ⟨rfl,rfl,rfl,rfl,rfl,rfl,rfl,rfl⟩;exact⟨d1,(a2.trans b2).trans d2⟩
end
section
variable {w W:World} {ad:Nat->Addr} {B:cz} {X:cm} {wd h seed:Int} {S:af.St}
theorem Xp (R:World->Prop):∃ (X:Type) (val:X->World),(∀ x,R (val x))∧∀ W,R W->∃ x,val x=W :=
 ⟨{ w:World // R w },fun x=>x.1,fun x=>x.2,fun W h=>⟨⟨W,h⟩,rfl⟩⟩
end
section
variable {w W W':World} {ad:Nat->Addr} {B:cz} {X X':cm} {wd h seed:Int} {S:af.St}
theorem aG.beside {q:Nat} {cur:Array Value} {e:TypeId} {fz:Nat×Nat} (H:aG w W B X wd h seed S) (hk:W.heap[q]?=some (.cells cur e fz)) (he:e≠114∧e≠213∧e≠267∧e≠276∧e≠197∧e≠232∧e≠95∧e≠117∧e≠5) (Ob:e≠210) (hlo:w.heap.size<=q) (hs:aH W W' q):aG w W' B X wd h seed S :=
 H.aside (T:=fun k=>k=q) ⟨hs.os,hs.tape,hs.output,hs.size,fun k hk hn=>hs.block k hk hn⟩ (Ne.symm (aA hk H.fl.blk Ob)) (fun k hv e=>H4 H hk he (by rw[<- e];exact hv)) (fun k e=>by rw[e];exact hlo)
end
def zh (r:af.jo):List Value:=[.int .i64 r.c,.string r.k,.int .i64 r.id,.int .i64 r.pr,.int .i64 r.q,.int .i64 r.cd]
def uu (l:List af.jo):List Value:=l.flatMap zh
theorem ajk (a b:List af.jo):uu (a++b)=uu a++uu b:=by simp[uu]
theorem ajl (r:af.jo):∀ u∈zh r,u.oneCell'=true:=by
 intro u hu;simp only[zh,List.mem_cons,List.not_mem_nil,or_false]at hu;rcases hu with rfl | rfl | rfl | rfl | rfl | rfl <;> rfl
def uv (w:World) (base:Nat) (v:Value) (l:List af.jo):Prop:=w.ownsRow base 121 6 v l.length (uu l)
theorem ajm:∃ i z,Tryz.prog.info? 121=some i∧i.zero=some z∧i.size=6∧i.bytes=56∧z.cells.size=6:=⟨_,_,rfl,rfl,rfl,rfl,rfl⟩
theorem ajn (w:World) (r:af.jo) (ty:TypeId) (fz:Nat×Nat) (hf:fz=(0,0)):∀ j u,(zh r)[j]?=some u->(w.alloc (.cells (kP r) ty fz)).cell? ((⟨w.heap.size,0,none⟩:Addr).add j)=some u:=by
 subst hf;intro j u hj;have hp:(⟨w.heap.size,0,none⟩:Addr).add j=⟨w.heap.size,j,none⟩:=by unfold Addr.add;split <;> simp_all
 rw[hp,cR _ _ j _ ty _ (hNq w _)];simpa [kP,zh] using hj
section
variable {w W W':World} {ad:Nat->Addr} {B:cz} {X X':cm} {wd h seed:Int} {S:af.St}
theorem ep {base:Nat} {e:TypeId} {sz n:Nat} {v:Value} {xs:List Value} (hr:W.ownsRow base e sz v n xs) {k:Nat} (hk:v.ownBlock=some k):base<=k∧∃ cur,W.heap[k]?=some (.cells cur e (0,0)):=by
 rcases hr.2 with ⟨e1,_⟩ | ⟨r,cap,cur,e1,hb,hr2,_⟩
 ·rw[e1]at hk;cases hk
 ·rw[e1]at hk
  have:r=k:=by simpa [Value.ownBlock] using hk
  subst this;exact⟨hb,cur,hr2⟩
theorem aG.grown {base:Nat} {e:TypeId} {sz n:Nat} {v:Value} {xs:List Value} (H:aG w W B X wd h seed S) (hr:W.ownsRow base e sz v n xs) (he:e≠114∧e≠213∧e≠267∧e≠276∧e≠197∧e≠232∧e≠95∧e≠117∧e≠5) (Ob:e≠210) (hb:w.heap.size<=base) (hg:W.grownBy W' v.ownBlock):aG w W' B X wd h seed S :=
 H.aside (aF.jV hg) (fun e1=>by
  obtain⟨_,cur,h2⟩:=ep hr e1.symm;exact aA h2 H.fl.blk Ob rfl) (fun k hv e1=>by
  obtain⟨_,cur,h2⟩:=ep hr e1.symm;exact H4 H h2 he hv) (fun _ e1=>lTq hb (ep hr e1.symm).1)
theorem XC {base b2:Nat} {e e2:TypeId} {sz s2 n n2:Nat} {v v2:Value} {xs x2:List Value} (hr:W.ownsRow base e sz v n xs) (hr2:W.ownsRow b2 e2 s2 v2 n2 x2) (hne:e≠e2) (hg:W.grownBy W' v.ownBlock):W'.ownsRow b2 e2 s2 v2 n2 x2 :=
 fJ hr2 (aF.jV hg) (fun k hk e1=>by
  obtain⟨_,cur,h1⟩:=ep hr e1.symm;obtain⟨_,kL,h2⟩:=ep hr2 hk;exact aA h1 h2 hne rfl)
end
def m_ (B:cz) (X:cm) (k:Nat):Prop:=k=B.P∨∃ i,i<3∧(k=B.I i∨k=B.b i∨(X.v i).ownBlock=some k)
structure bS (W W':World) (b0:Nat) (B:cz) (X X':cm):Prop where
 turned:aF W W' (fun k=>m_ B X k∨b0<=k)
 new:∀ k,m_ B X' k->m_ B X k∨W.heap.size<=k
 qv:X'.qv=X.qv
 bH:X'.bH=X.bH
def wV (S:af.St) (r:af.cJ):af.St:={ S with L:=r.L,pf:=r.pf,n:=r.n }
structure bI (w:World) (b0:Nat) (W:World) (B:cz) (X:cm) (wd h seed:Int) (S:af.St) (q:Nat) (vp vr:Value) (r:af.cJ):Prop where
 bQ:aG w W B X wd h seed (wV S r)
 blk:W.heap[q]?=some (.cells #[.pointer (some ⟨B.F,0,none⟩),vp,vr] 240 (0,0))
 pl:W.ownsRow b0 95 8 vp r.pl.length (aL r.pl)
 rp:uv W b0 vr r.rp
 lo:b0<=q
 l6:w.heap.size<=b0
 hib:b0<=W.heap.size
 wH:∀ c,c<6->∀ k,(X.qv c).ownBlock=some k->k<b0
 all:d6 r.L r.pf r.n wd h
section
variable {w W W' W1 W2:World} {b0 q:Nat} {B:cz} {X X' X2:cm} {wd h seed:Int} {S:af.St} {vp vr:Value} {r:af.cJ}
theorem bS.trans (h:bS W W1 b0 B X X') (h1:bS W1 W2 b0 B X' X2):bS W W2 b0 B X X2 :=
 ⟨h.turned.trans h1.turned (fun k hk=>by
  rcases hk with hk | hk
  ·rcases h.new k hk with h2 | h2
   ·exact .inl (.inl h2)
   ·exact .inr h2
  ·exact .inl (.inr hk)),fun k hk=>by
  rcases h1.new k hk with h2 | h2
  ·exact h.new k h2
  ·exact .inr (lTq h.turned.size h2),h1.qv.trans h.qv,h1.bH.trans h.bH⟩
theorem bS.high (ht:aF W W' (fun k=>b0<=k)) (B:cz) (X:cm):bS W W' b0 B X X:=⟨ht.mono (fun _ h=>.inr h),fun _ h=>.inl h,rfl,rfl⟩
theorem bS.below (hb:Below W.heap.size W W') (b0:Nat) (B:cz) (X:cm):bS W W' b0 B X X:=⟨aF.of_below hb _,fun _ h=>.inl h,rfl,rfl⟩
theorem Ie (H:aG w W B X wd h seed S) {k:Nat} {cur:Array Value} {e:TypeId} {fz:Nat×Nat} (hk:W.heap[k]?=some (.cells cur e fz)) (he:e≠213∧e≠267∧e≠276∧e≠197):¬ m_ B X k:=by
 rintro (rfl | ⟨i,hi,rfl | rfl | h1⟩)
 ·exact aA hk H.fl.cy he.1 rfl
 ·exact aA hk (H.fl.it i hi) he.2.1 rfl
 ·exact aA hk (H.fl.aB i hi).cell he.2.2.1 rfl
 ·exact iM (H.fl.aB i hi).row hk he.2.2.2 h1
theorem N8 (H:aG w W B X wd h seed S) {k:Nat} (hk:m_ B X k):k<W.heap.size:=by
 rcases hk with e | e
 ·exact(H.iR (.inr (.inl e))).2
 ·exact(H.iR (.inr (.inr (.inl e)))).2
theorem bS.row {base:Nat} {e:TypeId} {sz n:Nat} {v:Value} {xs:List Value} (hs:bS W W' b0 B X X') (H:aG w W B X wd h seed S) (hr:W.ownsRow base e sz v n xs) (he:e≠213∧e≠267∧e≠276∧e≠197) (ho:∀ k,v.ownBlock=some k->k<b0):W'.ownsRow base e sz v n xs:=by
 refine fJ hr hs.turned (fun k hk e1=>?_);rcases e1 with e1 | e1
 ·obtain⟨_,cur,h2⟩:=ep hr hk
  exact Ie H h2 he e1
 ·have:=ho k hk
  omega
theorem bI.floor {v':Nat->Value} {L':Nat->List Cv.ag} {nR n':Nat->Int} (R:bI w b0 W B X wd h seed S q vp vr r) (hf:aU w W' B.F B.P B.I B.b v' L' nR n' wd h) (hs:bC W W' B.P B.I B.b X.v v') (ha:d6 L' nR n' wd h) :
  bI w b0 W' B { X with v:=v' } wd h seed S q vp vr { r with L:=L',pf:=nR,n:=n' }∧bS W W' b0 B X { X with v:=v' }∧aF W W' (fun k=>m_ B X k):=by
 have ht:aF W W' (fun k=>m_ B X k) :=
  ⟨hs.os,hs.tape,hs.output,hs.size,fun k hk hn=>hs.keep k hk (fun e=>hn (.inl e)) (fun i hi=>⟨fun e=>hn (.inr ⟨i,hi,.inl e⟩),fun e=>hn (.inr ⟨i,hi,.inr (.inl e)⟩),fun e=>hn (.inr ⟨i,hi,.inr (.inr e)⟩)⟩)⟩
 obtain⟨h1,_⟩:=R.bQ.floor hf hs;refine⟨⟨h1,?_,?_,?_,R.lo,R.l6,lTq R.hib hs.size,R.wH,ha⟩,⟨ht.mono (fun _ h=>.inl h),fun k hk=>?_,rfl,rfl⟩,ht⟩
 ·rw[ht.block q (lBq R.blk) (Ie R.bQ R.blk (by decide))];exact R.blk
 ·refine fJ R.pl ht (fun k hk=>?_)
  obtain⟨_,cur,h2⟩:=ep R.pl hk;exact Ie R.bQ h2 (by decide)
 ·refine fJ R.rp ht (fun k hk=>?_)
  obtain⟨_,cur,h2⟩:=ep R.rp hk;exact Ie R.bQ h2 (by decide)
 ·rcases hk with e | ⟨i,hi,e | e | e⟩
  ·exact .inl (.inl e)
  ·exact .inl (.inr ⟨i,hi,.inl e⟩)
  ·exact .inl (.inr ⟨i,hi,.inr (.inl e)⟩)
  ·rcases hs.new i hi k e with h2 | h2
   ·exact .inl (.inr ⟨i,hi,.inr (.inr h2)⟩)
   ·exact .inr h2
theorem bI.later (R:bI w b0 W B X wd h seed S q vp vr r) (hb:Below W.heap.size W W'):bI w b0 W' B X wd h seed S q vp vr r :=
 ⟨R.bQ.later hb,iT hb R.blk,bR R.pl hb,bR R.rp hb,R.lo,R.l6,lTq R.hib hb.size,R.wH,R.all⟩
theorem bI.cells (R:bI w b0 W B X wd h seed S q vp vr r):W.cell? ⟨q,0,none⟩=some (.pointer (some ⟨B.F,0,none⟩))∧W.cell? ⟨q,1,none⟩=some vp∧W.cell? ⟨q,2,none⟩=some vr:=by
 refine⟨?_,?_,?_⟩ <;> (rw[cR _ _ _ _ _ _ R.blk];rfl)
theorem bI.lt (R:bI w b0 W B X wd h seed S q vp vr r):q<W.heap.size:=lBq R.blk
theorem bI.told {v4:Value} {x:List af.jo} (R:bI w b0 W B X wd h seed S q vp vr r) (hb:Below W.heap.size W W1) (hg:W1.grownBy W2 vr.ownBlock) (hr:uv W2 b0 v4 (r.rp++x)) :
  bI w b0 (W2.setCell ⟨q,2,none⟩ v4) B X wd h seed S q vp v4 { r with rp:=r.rp++x }∧bS W (W2.setCell ⟨q,2,none⟩ v4) b0 B X X∧aF W (W2.setCell ⟨q,2,none⟩ v4) (fun k=>k=q∨vr.ownBlock=some k):=by
 have cp:=R.later hb;have hblk:W2.heap[q]?=some (.cells #[.pointer (some ⟨B.F,0,none⟩),vp,vr] 240 (0,0)):=by
  rw[hg.block q (lBq cp.blk) (fun e=>?_)]
  ·exact cp.blk
  ·obtain⟨_,cur,h2⟩:=ep cp.rp e.symm
   exact aA h2 cp.blk (by decide) rfl
 have hv2:=cp.bQ.grown cp.rp (by decide) (by decide) R.l6 hg;have bB:=aH.setCell W2 q 2 v4;have pJ:=aF.setCell W2 q 2 v4;have key:∀ {base:Nat} {e:TypeId} {sz n:Nat} {v:Value} {xs:List Value},W2.ownsRow base e sz v n xs->e≠240->(W2.setCell ⟨q,2,none⟩ v4).ownsRow base e sz v n xs:=fun {base e sz n v xs} p7 hne=>fJ p7 pJ (fun k hk e1=>by
  obtain⟨_,cur,h2⟩:=ep p7 hk;exact aA h2 hblk hne e1)
 refine⟨⟨hv2.beside hblk (by decide) (by decide) (lTq R.l6 R.lo) bB,?_,key (XC cp.rp cp.pl (by decide) hg) (by decide),key hr (by decide),R.lo,R.l6,?_,R.wH,R.all⟩,bS.high ?_ B X,?_⟩
 ·rw[block_setCell hblk];rfl
 ·exact lTq R.hib (lTq hb.size (lTq hg.size (by simp)))
 ·exact(aF.of_below hb _).trans (((aF.jV hg).mono (S':=fun k=>b0<=k) (fun _ hk=>(ep cp.rp hk.symm).1)).trans pJ (fun _ e=>.inl (by rw[e];exact R.lo))) (fun _ hk=>.inl hk)
 ·exact(aF.of_below hb _).trans (((aF.jV hg).mono (S':=fun k=>k=q∨vr.ownBlock=some k) (fun _ hk=>.inr hk.symm)).trans pJ (fun _ e=>.inl (.inl e))) (fun _ hk=>.inl hk)
theorem bI.row {base:Nat} {e:TypeId} {sz n:Nat} {v:Value} {xs:List Value} (R:bI w b0 W B X wd h seed S q vp vr r) (ht:aF W W' (fun k=>k=q∨vr.ownBlock=some k)) (hr:W.ownsRow base e sz v n xs) (h1:e≠240) (h2:e≠121):W'.ownsRow base e sz v n xs:=by
 refine fJ hr ht (fun k hk e1=>?_);obtain⟨_,cur,h3⟩:=ep hr hk;rcases e1 with e1 | e1
 ·exact aA h3 R.blk h1 e1
 ·obtain⟨_,kL,h4⟩:=ep R.rp e1
  exact aA h3 h4 h2 rfl
theorem bI.block {k:Nat} {cur:Array Value} {e:TypeId} {fz:Nat×Nat} (R:bI w b0 W B X wd h seed S q vp vr r) (ht:aF W W' (fun k=>k=q∨vr.ownBlock=some k)) (hk:W.heap[k]?=some (.cells cur e fz)) (h1:e≠240) (h2:e≠121):W'.heap[k]?=some (.cells cur e fz):=by
 rw[ht.block k (lBq hk) (fun e1=>?_)]
 ·exact hk
 ·rcases e1 with e1 | e1
  ·exact aA hk R.blk h1 e1
  ·obtain⟨_,kL,h4⟩:=ep R.rp e1
   exact aA hk h4 h2 rfl
theorem bI.listed {v4:Value} {x:List Ask} (R:bI w b0 W B X wd h seed S q vp vr r) (hb:Below W.heap.size W W1) (hg:W1.grownBy W2 vp.ownBlock) (hr:W2.ownsRow b0 95 8 v4 x.length (aL x)) :
  bI w b0 (W2.setCell ⟨q,1,none⟩ v4) B X wd h seed S q v4 vr { r with pl:=x }∧bS W (W2.setCell ⟨q,1,none⟩ v4) b0 B X X:=by
 have cp:=R.later hb;have hblk:W2.heap[q]?=some (.cells #[.pointer (some ⟨B.F,0,none⟩),vp,vr] 240 (0,0)):=by
  rw[hg.block q (lBq cp.blk) (fun e=>?_)]
  ·exact cp.blk
  ·obtain⟨_,cur,h2⟩:=ep cp.pl e.symm
   exact aA h2 cp.blk (by decide) rfl
 have hv2:aG w W2 B X wd h seed (wV S r):=by
  refine cp.bQ.aside (aF.jV hg) (fun e1=>?_) (fun k hv e1=>?_) (fun _ e1=>lTq R.l6 (ep cp.pl e1.symm).1)
  ·obtain⟨_,cur,h2⟩:=ep cp.pl e1.symm
   exact aA h2 cp.bQ.fl.blk (by decide) rfl
  ·obtain⟨h3,cur,h2⟩:=ep cp.pl e1.symm
   rcases hv with rfl | rfl | ⟨i,hi,rfl | rfl | h1⟩ | (rfl | ⟨c,hc,h1⟩) | rfl | h1
   ·exact aA h2 cp.bQ.blk (by decide) rfl
   ·exact aA h2 cp.bQ.fl.cy (by decide) rfl
   ·exact aA h2 (cp.bQ.fl.it i hi) (by decide) rfl
   ·exact aA h2 (cp.bQ.fl.aB i hi).cell (by decide) rfl
   ·exact iM (cp.bQ.fl.aB i hi).row h2 (by decide) h1
   ·exact aA h2 cp.bQ.it.cell (by decide) rfl
   ·have:=R.wH c hc k h1;omega
   ·exact aA h2 cp.bQ.dk.cell (by decide) rfl
   ·exact cp.bQ.dk.row.uw h2 (by decide) h1
 have bB:=aH.setCell W2 q 1 v4;have pJ:=aF.setCell W2 q 1 v4;have key:∀ {base:Nat} {e:TypeId} {sz n:Nat} {v:Value} {xs:List Value},W2.ownsRow base e sz v n xs->e≠240->(W2.setCell ⟨q,1,none⟩ v4).ownsRow base e sz v n xs:=fun {base e sz n v xs} p7 hne=>fJ p7 pJ (fun k hk e1=>by
  obtain⟨_,cur,h2⟩:=ep p7 hk;exact aA h2 hblk hne e1)
 refine⟨⟨hv2.beside hblk (by decide) (by decide) (lTq R.l6 R.lo) bB,?_,key hr (by decide),key (XC cp.pl cp.rp (by decide) hg) (by decide),R.lo,R.l6,?_,R.wH,R.all⟩,bS.high ?_ B X⟩
 ·rw[block_setCell hblk];rfl
 ·exact lTq R.hib (lTq hb.size (lTq hg.size (by simp)))
 ·exact(aF.of_below hb _).trans (((aF.jV hg).mono (S':=fun k=>b0<=k) (fun _ hk=>(ep cp.pl hk.symm).1)).trans pJ (fun _ e=>.inl (by rw[e];exact R.lo))) (fun _ hk=>.inl hk)
end
def Ct (w:World) (b0:Nat) (W W':World) (B:cz) (X:cm) (wd h seed:Int) (S:af.St) (q:Nat) (r':af.cJ):Prop :=
 ∃ X' akJ rT,bI w b0 W' B X' wd h seed S q akJ rT r'∧bS W W' b0 B X X'
def Yu (w:World) (b0:Nat) (W W':World) (B:cz) (X:cm) (wd h seed:Int) (S:af.St) (q:Nat) (vp vr:Value) (r':af.cJ):Prop :=
 ∃ rT,bI w b0 W' B X wd h seed S q vp rT r'∧bS W W' b0 B X X∧aF W W' (fun k=>k=q∨vr.ownBlock=some k)
section
variable {w W W':World} {ad:Nat->Addr} {b0 q:Nat} {B:cz} {X X' X2:cm} {wd h seed:Int} {S:af.St} {vp vr:Value} {r:af.cJ}
theorem Yv (W:World) (v:Value) (l:List af.jo) (x:af.jo) (hr:uv W b0 v l) (hl:l.length<=100000) (hb:b0<=W.heap.size) :
  ∃ v' W',(Builtin.append_ #[55,55] 55 #[v,.slice (some ⟨W.heap.size,0,none⟩) 1 1]).run Tryz.prog (W.alloc (.cells (kP x) 121))=.ok v' W'∧uv W' b0 v' (l++[x])∧(W.alloc (.cells (kP x) 121)).grownBy W' v.ownBlock:=by
 obtain⟨i0,z0,hi,hz0,hz1,hz2,hz3⟩:=ajm;obtain⟨v4,w4,hap,hrow,hg,_,_⟩:=run_append_own_at (P:=Tryz.prog) (w:=W.alloc (.cells (kP x) 121)) b0 55 55 121 i0 z0 6 56 Tryz.underlying55 hi hz0 hz1 hz2 hz3 (by decide) v l.length (uu l) (World.ownsRow.alloc hr _) ⟨W.heap.size,0,none⟩ 1 1 (zh x) rfl
  (fun j u hj=>ajn W x 121 _ rfl j u hj) (ajl x) (by unfold maxLen;omega) (by omega) (by simp;omega)
 refine⟨v4,w4,hap,?_,hg⟩;show w4.ownsRow b0 121 6 v4 (l++[x]).length (uu (l++[x]));rw[ajk,lAq];simpa [uu] using hrow
theorem Hy (k:ByteArray) (x:Cv.ag) (W:World) (R:Hid (bI w b0 W B X wd h seed S q vp vr r)) (hn:r.rp.length<=100000) :
  Calls Tryz.prog 187 #[.pointer (some ⟨q,0,none⟩),.string k,bJ x] W fun e w'=>e=.returned (.tuple #[])∧Yu w b0 W w' B X wd h seed S q vp vr { r with rp:=r.rp++[af.tell k x] }:=by
 have hb1:Below W.heap.size W (W.alloc (.cells #[.int .i64 x.id,.int .i64 x.ak,.int .i64 x.sd,.int .i64 x.pr,.int .i64 x.q] 197)):=(bRq _ _).alloc (lRq _) _;have hb2:Below W.heap.size W (W.alloc (.cells #[.int .i64 x.id,.int .i64 x.ak,.int .i64 x.sd,.int .i64 x.pr,.int .i64 x.q] 197)).drew:=hb1.trans (iU.mono (by simp));have hb3:Below W.heap.size W ((W.alloc (.cells #[.int .i64 x.id,.int .i64 x.ak,.int .i64 x.sd,.int .i64 x.pr,.int .i64 x.q] 197)).drew.alloc (.cells (kP (af.tell k x)) 121)):=hb2.alloc hb2.size _;have q_:=hNq W (.cells #[.int .i64 x.id,.int .i64 x.ak,.int .i64 x.sd,.int .i64 x.pr,.int .i64 x.q] 197);have hL2:(W.alloc (.cells #[.int .i64 x.id,.int .i64 x.ak,.int .i64 x.sd,.int .i64 x.pr,.int .i64 x.q] 197)).drew.heap[W.heap.size]?=some (.cells #[.int .i64 x.id,.int .i64 x.ak,.int .i64 x.sd,.int .i64 x.pr,.int .i64 x.q] 197 (0,0)):=q_;have hL3:((W.alloc (.cells #[.int .i64 x.id,.int .i64 x.ak,.int .i64 x.sd,.int .i64 x.pr,.int .i64 x.q] 197)).drew.alloc (.cells (kP (af.tell k x)) 121)).heap[W.heap.size]?=some (.cells #[.int .i64 x.id,.int .i64 x.ak,.int .i64 x.sd,.int .i64 x.pr,.int .i64 x.q] 197 (0,0)):=by rw[Below.heap_alloc _ _ _ (by simp[World.drew])];exact hL2
 obtain⟨v4,w4,hap,hrow,hg⟩:=Yv (W.alloc (.cells #[.int .i64 x.id,.int .i64 x.ak,.int .i64 x.sd,.int .i64 x.pr,.int .i64 x.q] 197)).drew vr r.rp (af.tell k x) (R.out.later hb2).rp hn (R.out.later hb2).hib;have hL4:w4.heap[W.heap.size]?=some (.cells #[.int .i64 x.id,.int .i64 x.ak,.int .i64 x.sd,.int .i64 x.pr,.int .i64 x.q] 197 (0,0)):=by
  rw[hg.block _ (lBq hL3) (fun e=>?_)]
  ·exact hL3
  ·obtain⟨_,cur,h2⟩:=ep (R.out.later hb3).rp e.symm
   exact aA h2 hL3 (by decide) rfl
 have zl:w4.cell? ⟨q,2,none⟩=some vr∧w4.frozen? ⟨q,2,none⟩=false:=by
  have e:w4.heap[q]?=some (.cells #[.pointer (some ⟨B.F,0,none⟩),vp,vr] 240 (0,0)):=by
   rw[hg.block q (lBq (R.out.later hb3).blk) (fun e=>?_)]
   ·exact(R.out.later hb3).blk
   ·obtain⟨_,cur,h2⟩:=ep (R.out.later hb3).rp e.symm
    exact aA h2 (R.out.later hb3).blk (by decide) rfl
  exact⟨by rw[cR _ _ _ _ _ _ e];rfl,by simp[World.frozen?,e]⟩
 obtain⟨g1,g2⟩:=zl;have HT:=hDq (R.out.told hb3 hg hrow);have q3:=(R.out.later hb3).cells.2.2;have q2:=(R.out.later hb2).cells.2.2;obtain⟨a0,c0,r9⟩:=eo R.out.rp;obtain⟨a4,c4,hv4⟩:=eo hrow;rw[lAq,List.length_singleton]at hv4;rw[r9]at hap q3 q2 g1;rw[hv4]at hap HT;rw[show (W.alloc (.cells #[.int .i64 x.id,.int .i64 x.ak,.int .i64 x.sd,.int .i64 x.pr,.int .i64 x.q] 197)).drew.heap.size=W.heap.size+1 by simp[World.drew]]at hap;have cO:=hDq hap;have iN:=hDq hL2;have qf:=hDq hL3;have kH:=hDq hL4;have Om:=hDq q3;have CP:=hDq g1;clear hap hrow hg hv4 r9 q_ hL2 hL3 hL4 hb1 hb2 hb3 q3 g1;have rH:q<W.heap.size:=R.out.lt;generalize r.rp.length=m at *;unfold af.tell at *;unfold bJ kP at *;go_enter Tryz.func187,Tryz.ntmps187;go_wp2;obtain⟨bZ,val,hcl,aW⟩:=nY (fun W'=>W'.heap[W.heap.size]?=some (.cells #[.int .i64 x.id,.int .i64 x.ak,.int .i64 x.sd,.int .i64 x.pr,.int .i64 x.q] 197 (0,0))∧W'.cell? ⟨q,2,none⟩=some (.slice a0 m c0));obtain⟨x0,hx0⟩:=aW (W.alloc (.cells #[.int .i64 x.id,.int .i64 x.ak,.int .i64 x.sd,.int .i64 x.pr,.int .i64 x.q] 197)).drew ⟨iN.out,q2⟩;have hnx:Nonempty bZ:=⟨x0⟩;have s0:∀ x0,(val x0).cell? ⟨W.heap.size,0,none⟩=some (.int .i64 x.id):=fun x0=>by rw[cR _ _ _ _ _ _ (hcl x0).1];rfl
 have s1:∀ x0,(val x0).cell? ⟨W.heap.size,1,none⟩=some (.int .i64 x.ak):=fun x0=>by rw[cR _ _ _ _ _ _ (hcl x0).1];rfl
 have s2:∀ x0,(val x0).cell? ⟨W.heap.size,2,none⟩=some (.int .i64 x.sd):=fun x0=>by rw[cR _ _ _ _ _ _ (hcl x0).1];rfl
 have s3:∀ x0,(val x0).cell? ⟨W.heap.size,3,none⟩=some (.int .i64 x.pr):=fun x0=>by rw[cR _ _ _ _ _ _ (hcl x0).1];rfl
 have tO:∀ x0,(val x0).cell? ⟨W.heap.size,4,none⟩=some (.int .i64 x.q):=fun x0=>by rw[cR _ _ _ _ _ _ (hcl x0).1];rfl
 have rh:∀ x0,(val x0).cell? ⟨q,2,none⟩=some (.slice a0 m c0):=fun x0=>(hcl x0).2;have M1:=hDq (aW _ ⟨qf.out,Om.out⟩);have CQ:=hDq (aW _ ⟨kH.out,CP.out⟩);have ajS:=CP.out;clear aW hcl;refine yF (val:=val) [15,16] 19 30 [0,1,2,3,4,5,6,7,8,9,10,11,12,13,14,15,16,17,18,19] (by kernel_rfl) (by kernel_rfl) x0 hx0 ?_;rw[hx0];clear hx0
 iterate 15 (refine cH rfl rfl (fun K hK=>?_);refine⟨by rfl,?_⟩;unfold aI;go_simp;refine hK _ ?_;clear hK K)
 refine qm rfl rfl (fun K hK=>?_);refine⟨by rfl,?_⟩;unfold aR;go_simp;refine⟨M1.out,hK _ _ ?_⟩;clear hK K;refine qm rfl rfl (fun K hK=>?_);refine⟨by rfl,?_⟩;refine Gx _ _ 55 rfl _ _ _ rfl rfl cO.out ?_;refine⟨CQ.out,hK _ _ ?_⟩;clear hK K
 iterate 2 (refine cH rfl rfl (fun K hK=>?_);refine⟨by rfl,?_⟩;unfold aI;go_simp;refine hK _ ?_;clear hK K)
 refine yG rfl (fun K hK=>?_);refine⟨by rfl,?_⟩;unfold aR;go_simp;refine hK _ _ ?_;clear hK K;go_wp2;go_end0;exact⟨rfl,_,HT.out.1,HT.out.2.1,HT.out.2.2⟩
theorem Xq (a:Ask) (d:Nat) (hd:d+1<=12) (W:World) (hs:Hid (cP w ad)) (R:Hid (bI w b0 W B X wd h seed S q vp vr r)) (hn:r.rp.length<=100000) :
  Calls Tryz.prog 216 #[.pointer (some ⟨q,0,none⟩),cr a,.iface 412 (.pointer (some (ad d)))] W fun e w'=>e=.returned (.tuple #[])∧Yu w b0 W w' B X wd h seed S q vp vr { r with rp:=r.rp++[af.kr a.c a.id (d+1)] }:=by
 have HF:Hid (∀ W',Below W.heap.size W W'->Calls Tryz.prog 166 #[.int .i64 a.c,.int .i64 a.id,.iface 412 (.pointer (some (ad d)))] W' fun e w'=>e=.returned (C4 (af.kr a.c a.id (d+1)))∧Below W'.heap.size W' w'):=fun W' hb=>akz a.c a.id (d+1) hd W' ((R.out.later hb).bQ.sent hs.out);have rH:q<W.heap.size:=R.out.lt;have vE:Hid (∀ W',Below W.heap.size W W'->W'.heap[W.heap.size]?=some (.cells #[.int .u8 a.k,.int .i64 a.c,.int .i64 a.sq,.int .i64 a.it,.int .i64 a.sd,.int .i64 a.pr,.int .i64 a.q,.int .i64 a.id] 95 (0,0))->∃ v4 w4 a0 c0 a4 c4,(Builtin.append_ #[55,55] 55 #[.slice a0 r.rp.length c0,.slice (some ⟨W'.heap.size,0,none⟩) 1 1]).run Tryz.prog (W'.alloc (.cells (kP (af.kr a.c a.id (d+1))) 121))=.ok v4 w4∧vr=.slice a0 r.rp.length c0∧v4=.slice a4 (r.rp.length+1) c4∧(w4.heap[W.heap.size]?=some (.cells #[.int .u8 a.k,.int .i64 a.c,.int .i64 a.sq,.int .i64 a.it,.int .i64 a.sd,.int .i64 a.pr,.int .i64 a.q,.int .i64 a.id] 95 (0,0))∧w4.cell? ⟨q,2,none⟩=some vr∧w4.frozen? ⟨q,2,none⟩=false)∧(W'.alloc (.cells (kP (af.kr a.c a.id (d+1))) 121)).heap[W.heap.size]?=some (.cells #[.int .u8 a.k,.int .i64 a.c,.int .i64 a.sq,.int .i64 a.it,.int .i64 a.sd,.int .i64 a.pr,.int .i64 a.q,.int .i64 a.id] 95 (0,0))∧(W'.alloc (.cells (kP (af.kr a.c a.id (d+1))) 121)).cell? ⟨q,2,none⟩=some vr∧bI w b0 (w4.setCell ⟨q,2,none⟩ v4) B X wd h seed S q vp v4 { r with rp:=r.rp++[af.kr a.c a.id (d+1)] }∧bS W (w4.setCell ⟨q,2,none⟩ v4) b0 B X X∧aF W (w4.setCell ⟨q,2,none⟩ v4) (fun k=>k=q∨vr.ownBlock=some k)):=fun W' hb2 hL2=>by
  have hb3:Below W.heap.size W (W'.alloc (.cells (kP (af.kr a.c a.id (d+1))) 121)):=hb2.alloc hb2.size _;have hL3:(W'.alloc (.cells (kP (af.kr a.c a.id (d+1))) 121)).heap[W.heap.size]?=some (.cells #[.int .u8 a.k,.int .i64 a.c,.int .i64 a.sq,.int .i64 a.it,.int .i64 a.sd,.int .i64 a.pr,.int .i64 a.q,.int .i64 a.id] 95 (0,0)):=by rw[Below.heap_alloc _ _ _ (lBq hL2)];exact hL2
  obtain⟨v4,w4,hap,hrow,hg⟩:=Yv W' vr r.rp (af.kr a.c a.id (d+1)) (R.out.later hb2).rp hn (R.out.later hb2).hib;have hL4:w4.heap[W.heap.size]?=some (.cells #[.int .u8 a.k,.int .i64 a.c,.int .i64 a.sq,.int .i64 a.it,.int .i64 a.sd,.int .i64 a.pr,.int .i64 a.q,.int .i64 a.id] 95 (0,0)):=by
   rw[hg.block _ (lBq hL3) (fun e=>?_)]
   ·exact hL3
   ·obtain⟨_,cur,h2⟩:=ep (R.out.later hb3).rp e.symm
    exact aA h2 hL3 (by decide) rfl
  have zl:w4.cell? ⟨q,2,none⟩=some vr∧w4.frozen? ⟨q,2,none⟩=false:=by
   have e:w4.heap[q]?=some (.cells #[.pointer (some ⟨B.F,0,none⟩),vp,vr] 240 (0,0)):=by
    rw[hg.block q (lBq (R.out.later hb3).blk) (fun e=>?_)]
    ·exact(R.out.later hb3).blk
    ·obtain⟨_,cur,h2⟩:=ep (R.out.later hb3).rp e.symm
     exact aA h2 (R.out.later hb3).blk (by decide) rfl
   exact⟨by rw[cR _ _ _ _ _ _ e];rfl,by simp[World.frozen?,e]⟩
  obtain⟨a0,c0,r9⟩:=eo R.out.rp;obtain⟨a4,c4,hv4⟩:=eo hrow;rw[lAq,List.length_singleton]at hv4;exact⟨v4,w4,a0,c0,a4,c4,by rw[<- r9];exact hap,r9,hv4,⟨hL4,zl.1,zl.2⟩,hL3,(R.out.later hb3).cells.2.2,(R.out.told hb3 hg hrow).1,(R.out.told hb3 hg hrow).2⟩
 have hb1:Below W.heap.size W (W.alloc (.cells (bw a) 95)):=(bRq _ _).alloc (lRq _) _;have hb2:Below W.heap.size W (W.alloc (.cells (bw a) 95)).drew:=hb1.trans (iU.mono (by simp));have hL2:(W.alloc (.cells (bw a) 95)).drew.heap[W.heap.size]?=some (.cells (bw a) 95 (0,0)):=hNq W (.cells (bw a) 95);have q2:=(R.out.later hb2).cells.2.2;have HB2:=hDq hb2;have iN:=hDq hL2;clear hb1 hb2 hL2;unfold af.kr at *;unfold cr bw C4 kP at *;obtain⟨a0,c0,r9⟩:=eo R.out.rp;go_enter Tryz.func216,Tryz.ntmps216;go_wp2;obtain⟨bZ,val,hcl,aW⟩:=nY (fun W'=>W'.heap[W.heap.size]?=some (.cells #[.int .u8 a.k,.int .i64 a.c,.int .i64 a.sq,.int .i64 a.it,.int .i64 a.sd,.int .i64 a.pr,.int .i64 a.q,.int .i64 a.id] 95 (0,0))∧W'.cell? ⟨q,2,none⟩=some vr);obtain⟨x0,hx0⟩:=aW (W.alloc (.cells #[.int .u8 a.k,.int .i64 a.c,.int .i64 a.sq,.int .i64 a.it,.int .i64 a.sd,.int .i64 a.pr,.int .i64 a.q,.int .i64 a.id] 95)).drew ⟨iN.out,q2⟩;have hnx:Nonempty bZ:=⟨x0⟩;have s1:∀ x0,(val x0).cell? ⟨W.heap.size,1,none⟩=some (.int .i64 a.c):=fun x0=>by rw[cR _ _ _ _ _ _ (hcl x0).1];rfl
 have Cw:∀ x0,(val x0).cell? ⟨W.heap.size,7,none⟩=some (.int .i64 a.id):=fun x0=>by rw[cR _ _ _ _ _ _ (hcl x0).1];rfl
 have rh:∀ x0,(val x0).cell? ⟨q,2,none⟩=some (.slice a0 r.rp.length c0):=fun x0=>by rw[<- r9];exact(hcl x0).2
 have aV:=hDq aW;clear aW hcl;refine yF (val:=val) [10,11,12] 15 30 [0,1,2,3,4,5,6,7,8,9,10,11,12,13,14,15] (by kernel_rfl) (by kernel_rfl) x0 hx0 ?_;rw[hx0];clear hx0
 iterate 10 (refine cH rfl rfl (fun K hK=>?_);refine⟨by rfl,?_⟩;unfold aI;go_simp;refine hK _ ?_;clear hK K)
 refine qm rfl rfl (fun K hK=>?_);refine⟨by rfl,?_⟩;unfold aR;go_simp;refine(HF.out _ HB2.out).mono ?_;rintro e aQ ⟨rfl,cB⟩;have OU:=iT cB iN.out;have OV:=HB2.out.trans (cB.mono HB2.out.size);obtain⟨v4,w4,aoT,pI,a4,c4,hap,OW,hv4,⟨k1,k2,k3⟩,k4,tv,k6,k7⟩:=vE.out aQ OV OU;rw[r9]at OW;simp only[Value.slice.injEq,true_and]at OW;obtain⟨rfl,rfl⟩:=OW;refine⟨_,rfl,aV.out _ ⟨OU,(R.out.later OV).cells.2.2⟩,hK _ _ ?_⟩;clear hK K;have M1:=hDq (aV.out _ ⟨k4,tv⟩);have CQ:=hDq (aV.out _ ⟨k1,k2⟩);have HK:=hDq (And.intro k6 k7);have cO:=hDq hap;rw[hv4]at cO HK;rw[r9]at k2;clear hap k1 k4 tv k6 k7 hv4 cB OU OV vE HF;refine qm rfl rfl (fun K hK=>?_);refine⟨by rfl,?_⟩;unfold aR;go_simp;refine⟨M1.out,hK _ _ ?_⟩;clear hK K;refine qm rfl rfl (fun K hK=>?_);refine⟨by rfl,?_⟩;refine Gx _ _ 55 rfl _ _ _ rfl rfl cO.out ?_;refine⟨CQ.out,hK _ _ ?_⟩;clear hK K
 iterate 2 (refine cH rfl rfl (fun K hK=>?_);refine⟨by rfl,?_⟩;unfold aI;go_simp;refine hK _ ?_;clear hK K)
 refine yG rfl (fun K hK=>?_);refine⟨by rfl,?_⟩;unfold aR;go_simp;refine hK _ _ ?_;clear hK K;go_wp2;go_end0;exact⟨rfl,_,HK.out.1,HK.out.2.1,HK.out.2.2⟩
end
section
variable {w W W':World} {ad:Nat->Addr} {b0 q:Nat} {B:cz} {X X' X2:cm} {wd h seed:Int} {S:af.St} {vp vr:Value} {r:af.cJ}
theorem bI.fl (R:bI w b0 W B X wd h seed S q vp vr r):aU w W B.F B.P B.I B.b X.v r.L r.pf r.n wd h:=R.bQ.fl
theorem aje (k:ByteArray) {l:List Cv.ag} {i:Nat} (hi:i<l.length):(l.take (i+1)).map (af.tell k)=(l.take i).map (af.tell k)++[af.tell k (Cv.nth l i)]:=by
 rw[Fl.p6 hi,List.map_append];rfl
theorem ajf (c:Nat) (W:World) (R:Hid (bI w b0 W B X wd h seed S q vp vr r)) (hs:Hid (cP w ad)) (hn:r.rp.length<=50000) :
  Calls Tryz.prog 140 #[.pointer (some ⟨q,0,none⟩),.int .i64 c] W fun e w'=>e=.returned (.tuple #[])∧Ct w b0 W w' B X wd h seed S q (af.uj r c):=by
 have HD:=hDq (adP (c:Int) R.out.fl hs.out.Cu R.out.all.ok);have hlen:=Fl.Ed (c:Int) r.L (fun i hi=>(R.out.all.ok.aB i hi).len) 3 (by decide);have HRR:Hid (af.uj r c = { r with L:=Fl.k5 c r.L 3,pf:=Fl.p_ c r.L r.pf 3,rp:=r.rp++(Fl.mD c r.L 3).map (af.tell af.pM) }):=rfl;generalize af.uj r c=rr at *;have c0:=R.out.cells.1;go_enter Tryz.func140,Tryz.ntmps140
 go_wp2_with fail
 refine HD.out.mono ?_;rintro e w2 ⟨u,v',rfl,hrow,hf,hst,hok⟩;obtain⟨h1,h2,_⟩:=R.out.floor hf hst ⟨hok,R.out.all.qc,R.out.all.rule⟩;have H1:=hDq h1;have H2:=hDq h2;have h9:=hDq hrow;have hb0:=R.out.hib;clear hf hst hok h1 h2 HD;obtain⟨out,hout⟩:∃ out,Fl.mD (c:Int) r.L 3=out:=⟨_,rfl⟩;rw[hout]at h9 hlen HRR hrow;obtain⟨XB,ajg,hu⟩:=eo hrow;obtain⟨m,hm⟩:∃ m,out.length=m:=⟨_,rfl⟩;rw[hm]at h9 hlen hu;have HM:=hDq hm;clear hrow hm hout;subst hu;simp only[]
 go_wp2_with fail
 go_loopw [13] (fun kv wr=>∃ k rT,k<=m∧kv=.int .i64 k∧bI w b0 wr B { X with v:=v' } wd h seed S q vp rT { r with L:=Fl.k5 c r.L 3,pf:=Fl.p_ c r.L r.pf 3,rp:=r.rp++(out.take k).map (af.tell af.pM) }∧bS W wr b0 B X { X with v:=v' }∧wr.ownsRow W.heap.size 197 5 (.slice XB m ajg) m (flat out)) (fun kv _=>m-(intOf kv).toNat)
 case atStart=>exact⟨0,vr,by omega,rfl,by simpa using H1.out,H2.out,h9.out⟩
 case round =>
  obtain⟨k,o6,hk,rfl,hr,hfr,hrow⟩:=hrel;have HR:=hDq hr;have HF:=hDq hfr;have HW:=hDq hrow;clear hr hfr;by_cases hlt:k<m
  ·have aK:(k:Int)<m:=by omega
   have hkl:k<out.length:=by rw[HM.out];exact hlt
   obtain⟨g,hg⟩:∃ g,XB=some ⟨g,0,none⟩:=by
    rcases hrow.2 with ⟨e1,_⟩ | ⟨g,cap,cur,e1,_⟩
    ·cases e1;omega
    ·simp only[Value.slice.injEq]at e1;exact⟨g,e1.1⟩
   subst hg;obtain⟨x0,x1,x2,x3,x4⟩:=xX hrow k hkl;simp only[Nat.zero_add]at x0 x1 x2 x3 x4;have rJ:g<wr.heap.size:=bCq _ _ x0;have HT:=hDq (fun W' (hb:Below wr.heap.size wr W')=>Hy af.pM (Cv.nth out k) W' (HR.out.later hb) (by simp only[List.length_append,List.length_map,List.length_take];omega));have HN:=hDq (aje af.pM hkl);generalize Cv.nth out k=x at *;clear hrow;have HB:Hid (Below wr.heap.size wr (wr.alloc (.cells #[.int .i64 x.id,.int .i64 x.ak,.int .i64 x.sd,.int .i64 x.pr,.int .i64 x.q] 197))):=(bRq _ _).alloc (lRq _) _;unfold af.pM bJ at HT
   go_wp2_with fail
   refine(HT.out _ HB.out).mono ?_;rintro e w3 ⟨rfl,wO,h3,h4,h5⟩;have H3:=hDq h3;have gT:=hDq (HF.out.trans ((bS.below HB.out b0 B _).trans h4));have H5:=hDq ((HR.out.later HB.out).row h5 (bR HW.out HB.out) (by decide) (by decide));clear h3 h4 h5 HT HB;simp only[];go_wp2;refine⟨⟨k+1,wO,hlt,by go_num,?_,gT.out,H5.out⟩,by simp[intOf];omega⟩;rw[HN.out,<- aAq];exact H3.out
  ·have aK:¬ (k:Int)<m:=by omega
   obtain rfl:k=m:=by omega
   go_wp2;go_end0;refine⟨rfl,_,vp,o6,?_,HF.out⟩
   have:=HR.out
   rw[<- HM.out,List.take_length]at this;rw[HRR.out];exact this
end
namespace Fl
theorem XT (a:Ask) (k:Int):fH a k<=4:=by
 unfold fH;split
 ·decide
 ·unfold ah.code
  split
  ·split
   ·split <;> decide
   ·decide
  ·decide
theorem ajQ (L:Nat->List Cv.ag) (pf:Nat->Int) (a:Ask):eC L pf a<=9:=by
 have:=XT a 111
 unfold eC Pu.jC
 (repeat' split) <;> omega
theorem aiY (L:Nat->List Cv.ag) (pf:Nat->Int) (a:Ask):cW L pf a<=9:=by
 have:=XT a 99
 unfold cW Pu.gD
 (repeat' split) <;> omega
end Fl
section
variable {w W W':World} {ad:Nat->Addr} {b0 q:Nat} {B:cz} {X X' X2:cm} {wd h seed:Int} {S:af.St} {vp vr:Value} {r:af.cJ}
theorem ai3 (a:Ask) (W:World) (R:Hid (bI w b0 W B X wd h seed S q vp vr r)) (hs:Hid (cP w ad)) (hn:r.rp.length<=100000) (hp:r.pl.length<=100000) :
  Calls Tryz.prog 188 #[.pointer (some ⟨q,0,none⟩),cr a] W fun e w'=>e=.returned (.tuple #[])∧Ct w b0 W w' B X wd h seed S q (af.wN r a):=by
 have HP:Hid (∀ W',Below W.heap.size W W'->Calls Tryz.prog 215 #[.pointer (some ⟨B.F,0,none⟩),cr a] W' fun e w'=>e=.returned (cw (wJ ad) (Fl.eC r.L r.pf a))∧∃ X',bI w b0 w' B X' wd h seed S q vp vr { r with L:=Fl.kB r.L r.pf a,pf:=Fl.jD r.L r.pf a }∧bS W' w' b0 B X X'∧aF W' w' (fun k=>m_ B X k)):=fun W' hb=>by
  have R':=R.out.later hb;refine(aeC a R'.fl hs.out.Cu R'.all.ok).mono ?_;rintro e w' ⟨rfl,v',h1,h2⟩;exact⟨rfl,_,R'.floor h1 h2 ⟨R'.all.ok.place a,R'.all.qc,R'.all.rule⟩⟩
 have hle:=Fl.ajQ r.L r.pf a;have HRR:Hid (af.wN r a = { r with L:=Fl.kB r.L r.pf a,pf:=Fl.jD r.L r.pf a,pl:=if Fl.eC r.L r.pf a=0 then r.pl++[a] else r.pl,rp:=if Fl.eC r.L r.pf a=0 then r.rp else r.rp++[af.kr a.c a.id (Fl.eC r.L r.pf a+1)] }):=rfl;generalize af.wN r a=rr at *;generalize Fl.eC r.L r.pf a=pc at *;generalize Fl.kB r.L r.pf a=pL at *;generalize Fl.jD r.L r.pf a=aoN at *;have hb1:Below W.heap.size W (W.alloc (.cells (bw a) 95)):=(bRq _ _).alloc (lRq _) _;have hb2:Below W.heap.size W (W.alloc (.cells (bw a) 95)).drew:=hb1.trans (iU.mono (by simp));have hA:(W.alloc (.cells (bw a) 95)).drew.heap[W.heap.size]?=some (.cells (bw a) 95 (0,0)):=hNq W (.cells (bw a) 95);have HB2:=hDq hb2;have HA:=hDq hA;have c0:=R.out.cells.1;have rH:=R.out.lt;have ho:∀ k,m_ B X k->k<W.heap.size:=fun k hk=>N8 R.out.bQ hk;clear hb1 hb2 hA;cases pc with
 | succ d =>
  rw[show cw (wJ ad) (d+1)=.iface 412 (.pointer (some (ad (d+1)))) from rfl]at HP;rw[if_neg (by omega),if_neg (by omega)]at HRR;unfold cr bw at *;go_enter Tryz.func188,Tryz.ntmps188
  go_wp2_with fail
  go_region_with (go_at_call 215;refine(HP.out _ HB2.out).mono ?_;rintro e w2 ⟨rfl,X2,h1,h2,h3⟩;have H1:=hDq h1;have H2:=hDq h2;have bX:=hDq ((h3.block W.heap.size (lBq HA.out) (fun e=>by have:=ho _ e;omega)).trans HA.out);clear h1 h2 h3)
  all_goals
   have e0:w2.cell? ⟨W.heap.size,0,none⟩=some (.int .u8 a.k):=by rw[cR _ _ _ _ _ _ bX.out];rfl
   have e1:w2.cell? ⟨W.heap.size,1,none⟩=some (.int .i64 a.c):=by rw[cR _ _ _ _ _ _ bX.out];rfl
   have e2:w2.cell? ⟨W.heap.size,2,none⟩=some (.int .i64 a.sq):=by rw[cR _ _ _ _ _ _ bX.out];rfl
   have e3:w2.cell? ⟨W.heap.size,3,none⟩=some (.int .i64 a.it):=by rw[cR _ _ _ _ _ _ bX.out];rfl
   have e4:w2.cell? ⟨W.heap.size,4,none⟩=some (.int .i64 a.sd):=by rw[cR _ _ _ _ _ _ bX.out];rfl
   have e5:w2.cell? ⟨W.heap.size,5,none⟩=some (.int .i64 a.pr):=by rw[cR _ _ _ _ _ _ bX.out];rfl
   have e6:w2.cell? ⟨W.heap.size,6,none⟩=some (.int .i64 a.q):=by rw[cR _ _ _ _ _ _ bX.out];rfl
   have e7:w2.cell? ⟨W.heap.size,7,none⟩=some (.int .i64 a.id):=by rw[cR _ _ _ _ _ _ bX.out];rfl
   have HF:=hDq (Xq a (d+1) (by omega) w2 hs H1.out hn);unfold cr bw at HF
   go_wp2_with fail
   refine HF.out.mono ?_;rintro e w3 ⟨rfl,wO,h3,h4,_⟩;have H3:=hDq h3;have gT:=hDq (((bS.below HB2.out b0 B X).trans H2.out).trans h4);clear h3 h4;simp only[];go_wp2;refine bodyPost_ret (v:=.tuple #[]) (by simp[results,Tryz.results188]) rfl ?_;exact⟨rfl,X2,vp,wO,by rw[HRR.out];exact H3.out,gT.out⟩
 | zero =>
  rw[show cw (wJ ad) 0=.nilIface from rfl]at HP;rw[if_pos rfl,if_pos rfl]at HRR;unfold cr bw at *;go_enter Tryz.func188,Tryz.ntmps188
  go_wp2_with fail
  go_region_with (go_at_call 215;refine(HP.out _ HB2.out).mono ?_;rintro e w2 ⟨rfl,X2,h1,h2,h3⟩;have H1:=hDq h1;have H2:=hDq h2;have bX:=hDq ((h3.block W.heap.size (lBq HA.out) (fun e=>by have:=ho _ e;omega)).trans HA.out);clear h1 h2 h3)
  all_goals
   have hb3:Below w2.heap.size w2 (w2.drew.alloc (.cells (bw a) 95)):=iU.alloc iU.size _;have H9:=iT hb3 bX.out;obtain⟨v4,w4,hap,hrow,hg⟩:=Hs w2.drew vp r.pl a (H1.out.later iU).pl hp (H1.out.later iU).hib;have lI:=H1.out.later hb3;have hb0:=R.out.hib;have XU:w4.heap[W.heap.size]?=some (.cells #[.int .u8 a.k,.int .i64 a.c,.int .i64 a.sq,.int .i64 a.it,.int .i64 a.sd,.int .i64 a.pr,.int .i64 a.q,.int .i64 a.id] 95 (0,0)):=by
    rw[hg.block _ (lBq H9) (fun e=>?_)]
    ·exact H9
    ·have:=(R.out.pl.lt _ e.symm).2
     omega
   have zl:w4.cell? ⟨q,1,none⟩=some vp∧w4.frozen? ⟨q,1,none⟩=false:=by
    have e:w4.heap[q]?=some (.cells #[.pointer (some ⟨B.F,0,none⟩),vp,vr] 240 (0,0)):=by
     rw[hg.block q (lBq lI.blk) (fun e=>?_)]
     ·exact lI.blk
     ·obtain⟨_,cur,h2⟩:=ep lI.pl e.symm
      exact aA h2 lI.blk (by decide) rfl
    exact⟨by rw[cR _ _ _ _ _ _ e];rfl,by simp[World.frozen?,e]⟩
   obtain⟨g1,g2⟩:=zl;have HT:=hDq (H1.out.listed hb3 hg hrow);have q3:=lI.cells.2.1;have q2:=(H1.out.later iU).cells.2.1;obtain⟨a0,pI,hvp⟩:=eo H1.out.pl;obtain⟨a4,c4,hv4⟩:=eo hrow;rw[lAq,List.length_singleton]at hv4;have hvp:vp=.slice a0 r.pl.length pI:=hvp;rw[hvp]at hap q3 q2 g1;rw[hv4]at hap HT;rw[show w2.drew.heap.size=w2.heap.size from rfl]at hap;have cO:=hDq hap;have vB:=hDq H9;have gF:=hDq XU;have Om:=hDq q3;have CP:=hDq g1;have ajR:Hid (w2.drew.heap[W.heap.size]?=some (.cells #[.int .u8 a.k,.int .i64 a.c,.int .i64 a.sq,.int .i64 a.it,.int .i64 a.sd,.int .i64 a.pr,.int .i64 a.q,.int .i64 a.id] 95 (0,0))):=bX.out;clear hap hrow hg hv4 hvp H9 XU hb3 lI q3 g1;generalize r.pl.length=m at *;unfold bw at *;have ahA:q<w2.heap.size:=H1.out.lt;have e0:w2.cell? ⟨W.heap.size,0,none⟩=some (.int .u8 a.k):=by rw[cR _ _ _ _ _ _ bX.out];rfl
   have e1:w2.cell? ⟨W.heap.size,1,none⟩=some (.int .i64 a.c):=by rw[cR _ _ _ _ _ _ bX.out];rfl
   have e2:w2.cell? ⟨W.heap.size,2,none⟩=some (.int .i64 a.sq):=by rw[cR _ _ _ _ _ _ bX.out];rfl
   have e3:w2.cell? ⟨W.heap.size,3,none⟩=some (.int .i64 a.it):=by rw[cR _ _ _ _ _ _ bX.out];rfl
   have e4:w2.cell? ⟨W.heap.size,4,none⟩=some (.int .i64 a.sd):=by rw[cR _ _ _ _ _ _ bX.out];rfl
   have e5:w2.cell? ⟨W.heap.size,5,none⟩=some (.int .i64 a.pr):=by rw[cR _ _ _ _ _ _ bX.out];rfl
   have e6:w2.cell? ⟨W.heap.size,6,none⟩=some (.int .i64 a.q):=by rw[cR _ _ _ _ _ _ bX.out];rfl
   have e7:w2.cell? ⟨W.heap.size,7,none⟩=some (.int .i64 a.id):=by rw[cR _ _ _ _ _ _ bX.out];rfl
   go_wp2;clear e0 e1 e2 e3 e4 e5 e6 e7;obtain⟨bZ,val,hcl,aW⟩:=nY (fun W'=>W'.heap[W.heap.size]?=some (.cells #[.int .u8 a.k,.int .i64 a.c,.int .i64 a.sq,.int .i64 a.it,.int .i64 a.sd,.int .i64 a.pr,.int .i64 a.q,.int .i64 a.id] 95 (0,0))∧W'.cell? ⟨q,1,none⟩=some (.slice a0 m pI));obtain⟨x0,hx0⟩:=aW w2.drew ⟨ajR.out,q2⟩;have hnx:Nonempty bZ:=⟨x0⟩;have s0:∀ x0,(val x0).cell? ⟨W.heap.size,0,none⟩=some (.int .u8 a.k):=fun x0=>by rw[cR _ _ _ _ _ _ (hcl x0).1];rfl
   have s1:∀ x0,(val x0).cell? ⟨W.heap.size,1,none⟩=some (.int .i64 a.c):=fun x0=>by rw[cR _ _ _ _ _ _ (hcl x0).1];rfl
   have s2:∀ x0,(val x0).cell? ⟨W.heap.size,2,none⟩=some (.int .i64 a.sq):=fun x0=>by rw[cR _ _ _ _ _ _ (hcl x0).1];rfl
   have s3:∀ x0,(val x0).cell? ⟨W.heap.size,3,none⟩=some (.int .i64 a.it):=fun x0=>by rw[cR _ _ _ _ _ _ (hcl x0).1];rfl
   have tO:∀ x0,(val x0).cell? ⟨W.heap.size,4,none⟩=some (.int .i64 a.sd):=fun x0=>by rw[cR _ _ _ _ _ _ (hcl x0).1];rfl
   have Hu:∀ x0,(val x0).cell? ⟨W.heap.size,5,none⟩=some (.int .i64 a.pr):=fun x0=>by rw[cR _ _ _ _ _ _ (hcl x0).1];rfl
   have Hw:∀ x0,(val x0).cell? ⟨W.heap.size,6,none⟩=some (.int .i64 a.q):=fun x0=>by rw[cR _ _ _ _ _ _ (hcl x0).1];rfl
   have Cw:∀ x0,(val x0).cell? ⟨W.heap.size,7,none⟩=some (.int .i64 a.id):=fun x0=>by rw[cR _ _ _ _ _ _ (hcl x0).1];rfl
   have rh:∀ x0,(val x0).cell? ⟨q,1,none⟩=some (.slice a0 m pI):=fun x0=>(hcl x0).2;have M1:=hDq (aW _ ⟨vB.out,Om.out⟩);have CQ:=hDq (aW _ ⟨gF.out,CP.out⟩);have ajS:=CP.out;clear aW hcl;refine yF (val:=val) [6,7] 10 30 [0,1,2,3,4,5,6,7,8,9,10] (by kernel_rfl) (by kernel_rfl) x0 hx0 ?_;rw[hx0];clear hx0
   iterate 6 (refine cH rfl rfl (fun K hK=>?_);refine⟨by rfl,?_⟩;unfold aI;go_simp;refine hK _ ?_;clear hK K)
   refine qm rfl rfl (fun K hK=>?_);refine⟨by rfl,?_⟩;unfold aR;go_simp;refine⟨M1.out,hK _ _ ?_⟩;clear hK K;refine qm rfl rfl (fun K hK=>?_);refine⟨by rfl,?_⟩;refine Gx _ _ 24 rfl _ _ _ rfl rfl cO.out ?_;refine⟨CQ.out,hK _ _ ?_⟩;clear hK K
   iterate 2 (refine cH rfl rfl (fun K hK=>?_);refine⟨by rfl,?_⟩;unfold aI;go_simp;refine hK _ ?_;clear hK K)
   refine yG rfl (fun K hK=>?_);refine⟨by rfl,?_⟩;unfold aR;go_simp;refine hK _ _ ?_;clear hK K;go_wp2;go_end0;exact⟨rfl,X2,_,vr,by rw[HRR.out];exact HT.out.1,((bS.below HB2.out b0 B X).trans H2.out).trans HT.out.2⟩
end
namespace af
def same (a x:Ask):Bool:=x.it==a.it&&x.id==a.id
theorem N_ (a:Ask) (l:List Ask):others a l=l.filter fun x=>!same a x:=rfl
theorem Xt (a:Ask) (l:List Ask) (x:Ask):others a (l++[x])=others a l++if same a x=true then [] else [x]:=by
 rw[N_,N_,List.filter_append];cases h:same a x <;> simp[h]
theorem HV {l:List Ask} {k:Nat} (h:k<l.length):l.take (k+1)=l.take k++[cg l k]:=by
 rw[List.take_succ_eq_append_getElem h];congr 2
 have:=MN h
 rw[List.getElem?_eq_getElem h]at this;exact Option.some.inj this
theorem Xu {a:Ask} {l:List Ask} (h:∀ x∈l,same a x=false):others a l=l:=by
 rw[N_,List.filter_eq_self];intro x hx;rw[h x hx];rfl
end af
theorem Xv (A:Nat) (a x:Ask) (w:World) (hA:w.heap[A]?=some (.cells (bw a) 95 (0,0))) :
  Calls Tryz.prog 219 #[cr x,.pointer (some ⟨A,0,none⟩)] w fun e w'=>e=.returned (.bool (af.same a x))∧Below w.heap.size w w':=by
 have c3:w.cell? ⟨A,3,none⟩=some (.int .i64 a.it):=by rw[cR _ _ _ _ _ _ hA];rfl
 have c7:w.cell? ⟨A,7,none⟩=some (.int .i64 a.id):=by rw[cR _ _ _ _ _ _ hA];rfl
 have hlt:=lBq hA;have hs:af.same a x=(x.it==a.it&&x.id==a.id):=rfl;rw[hs];clear hA hs;cases h1:(x.it==a.it)
 all_goals
  unfold cr bw;go_enter Tryz.func219,Tryz.ntmps219;go_wp2;go_ret;refine⟨by simp,(bRq _ _).alloc (lRq _) _⟩
theorem rQ {w:World} {base g n cap:Nat} {R:List Ask} (hrow:w.ownsRow base 95 8 (.slice (some ⟨g,0,none⟩) n cap) n (aL R)) {k:Nat} (hk:k<R.length) (hkn:k<n) :
  w.cell? ⟨g,k*8,none⟩=some (.int .u8 (cg R k).k)∧w.cell? ⟨g,k*8+1,none⟩=some (.int .i64 (cg R k).c)∧w.cell? ⟨g,k*8+2,none⟩=some (.int .i64 (cg R k).sq)∧w.cell? ⟨g,k*8+3,none⟩=some (.int .i64 (cg R k).it)∧w.cell? ⟨g,k*8+4,none⟩=some (.int .i64 (cg R k).sd)∧w.cell? ⟨g,k*8+5,none⟩=some (.int .i64 (cg R k).pr)∧w.cell? ⟨g,k*8+6,none⟩=some (.int .i64 (cg R k).q)∧w.cell? ⟨g,k*8+7,none⟩=some (.int .i64 (cg R k).id):=by
 have key:∀ j,j<8->w.cell? ⟨g,k*8+j,none⟩=(lV (cg R k))[j]?:=fun j hj=>by
  rw[(lw hrow (k*8+j) (by omega)).2.2,af2 R k j hk hj]
 exact⟨key 0 (by decide),key 1 (by decide),key 2 (by decide),key 3 (by decide),key 4 (by decide),key 5 (by decide),key 6 (by decide),key 7 (by decide)⟩
theorem ai4 (base g n cap A:Nat) (a:Ask) (l:List Ask) (w:World) (hn':n<=100000) (ig:Hid (l.length=n)) (hrow:Hid (w.ownsRow base 95 8 (.slice (some ⟨g,0,none⟩) n cap) n (aL l))) (hA:Hid (w.heap[A]?=some (.cells (bw a) 95 (0,0)))) :
  Calls Tryz.prog 249 #[.slice (some ⟨g,0,none⟩) n cap,.func (.func 219) #[] #[.pointer (some ⟨A,0,none⟩)]] w fun e w'=>((e=.returned (.int .i64 (-1))∧∀ x∈l,af.same a x=false)∨∃ k,k<n∧e=.returned (.int .i64 (k:Nat))∧(∀ x∈l.take k,af.same a x=false)∧af.same a (cg l k)=true)∧Below w.heap.size w w':=by
 go_enter Tryz.func249,Tryz.ntmps249;go_wp2
 go_loopw [8] (fun i wr=>∃ k:Nat,k<=n∧i=.int .i64 k∧(∀ x∈l.take k,af.same a x=false)∧Below w.heap.size w wr) (fun i _=>n-(intOf i).toNat)
 case atStart=>exact⟨0,Nat.zero_le _,rfl,by simp,bRq _ _⟩
 case round =>
  obtain⟨k,hk,rfl,hno,hb⟩:=hrel;have HN:=hDq hno;have HB:=hDq hb;clear hno hb;by_cases hlt:k<n
  ·have aK:(k:Int)<n:=by omega
   have hkl:k<l.length:=by rw[ig.out];exact hlt
   obtain⟨c0,c1,c2,c3,c4,c5,c6,c7⟩:=rQ (bR hrow.out HB.out) hkl hlt;have HC:=hDq (Xv A a (cg l k) wr (iT HB.out hA.out));have HT:=hDq (af.HV hkl);obtain⟨x,oL⟩:∃ x,cg l k=x:=⟨_,rfl⟩;rw[oL]at HC HT c0 c1 c2 c3 c4 c5 c6 c7;have HX:=hDq oL;clear oL;unfold cr bw at HC
   go_wp2_with fail
   refine HC.out.mono ?_;rintro e w2 ⟨rfl,hb2⟩;have HB2:=hDq (HB.out.trans (hb2.mono HB.out.size));clear hb2 c0 c1 c2 c3 c4 c5 c6 c7 HC;cases hx:af.same a x with
   | true =>
    have Hx:=hDq hx;clear hx;simp only[];go_wp2;go_ret;exact⟨.inr ⟨k,hlt,rfl,HN.out,by rw[HX.out];exact Hx.out⟩,HB2.out⟩
   | false =>
    have oM:Hid (∀ y∈l.take (k+1),af.same a y=false):=fun y hy=>by
     rw[HT.out]at hy;rcases List.mem_append.1 hy with h | h
     ·exact HN.out y h
     ·rw[List.mem_singleton.1 h];exact hx
    clear hx;simp only[];go_wp2;exact⟨⟨k+1,by omega,by go_num,oM.out,HB2.out⟩,by simp[intOf];omega⟩
  ·have aK:¬ (k:Int)<n:=by omega
   have eU:k=l.length:=by rw[ig.out];omega
   have hno:=HN.out;rw[eU,List.take_length]at hno;have oM:=hDq hno;clear hno eU;go_wp2;go_ret;exact⟨.inl ⟨rfl,oM.out⟩,HB.out⟩
theorem ai5 (a:Option Addr) (f:Value) (w:World):Calls Tryz.prog 249 #[.slice a 0 0,f] w fun e w'=>e=.returned (.int .i64 (-1))∧w'=w:=by
 go_enter Tryz.func249,Tryz.ntmps249;go_wp2;refine wp_loop_rounds 1 ?_;rw[rounds_succ];go_wp2;go_ret;exact⟨rfl,rfl⟩
theorem ai6 (w:World) (b o J c:Nat) (hJ:0<J) (hc:∀ j,j<J*8->(w.cell? ⟨b,o+j,none⟩).isSome=true) (hf:∀ j,j<J*8->w.frozen? ⟨b,o+j,none⟩=false) :
  ∃ zs:List Value,zs.length=J*8∧∀ ty,(Builtin.clear_ #[24] ty #[.slice (some ⟨b,o,none⟩) J c]).run Tryz.prog w=.ok (.tuple #[]) (w.setCells b o zs):=by
 obtain⟨zs,hzs⟩:∃ zs,zs=(Builtin.zeroCells (Value.agg #[.int .u8 0,.int .i64 0,.int .i64 0,.int .i64 0,.int .i64 0,.int .i64 0,.int .i64 0,.int .i64 0]).cells J).toList:=⟨_,rfl⟩;have Xw:(Value.agg #[.int .u8 0,.int .i64 0,.int .i64 0,.int .i64 0,.int .i64 0,.int .i64 0,.int .i64 0,.int .i64 0]).cells=#[.int .u8 0,.int .i64 0,.int .i64 0,.int .i64 0,.int .i64 0,.int .i64 0,.int .i64 0,.int .i64 0]:=by kernel_rfl
 have hl:zs.length=J*8:=by rw[hzs,Xw];simp[Builtin.zeroCells]
 have h1:∀ u∈zs,u.oneCell'=true:=by
  intro u hu;rw[hzs,Xw]at hu;simp only[Builtin.zeroCells,Array.toList_map,List.mem_map]at hu;obtain⟨i,_,rfl⟩:=hu;have:i%8=0∨i%8=1∨i%8=2∨i%8=3∨i%8=4∨i%8=5∨i%8=6∨i%8=7:=by omega
  show (#[(.int .u8 0:Value),.int .i64 0,.int .i64 0,.int .i64 0,.int .i64 0,.int .i64 0,.int .i64 0,.int .i64 0][i%8]!).oneCell'=true;rcases this with e | e | e | e | e | e | e | e <;> rw[e] <;> rfl
 have hst:=run_storeCells_cells (P:=Tryz.prog) b o zs 0 w (fun j hj=>by rw[hl]at hj;exact hc j hj) (fun j hj=>by rw[hl]at hj;exact hf j hj) h1;simp only[Nat.add_zero]at hst;refine⟨zs,hl,fun ty=>?_⟩;obtain⟨Xx,rfl⟩:∃ Xx,J=Xx+1:=⟨J-1,by omega⟩;simp[Builtin.clear_,run_underlying Tryz.underlying24,<- hzs,hst]
theorem ai7 {w:World} {base g n cap:Nat} {R:List Ask} (hrow:w.ownsRow base 95 8 (.slice (some ⟨g,0,none⟩) n cap) n (aL R)) (hR:R.length=n) (hcap:n<=cap) {i:Nat} (hi:i<n) (x:Ask) :
  (w.setCells g (i*8) (lV x)).ownsRow base 95 8 (.slice (some ⟨g,0,none⟩) n cap) n (aL (R.take i++x::R.drop (i+1))):=by
 have e:aL (R.take i++x::R.drop (i+1))=(aL R).take (i*8)++lV x++(aL R).drop (i*8+(lV x).length):=by
  rw[vZ,UX R i (by omega),show i*8+(lV x).length=(i+1)*8 by show i*8+8=_;omega,US R (i+1) (by omega),aAq];rfl
 have hl:(aL (R.take i++x::R.drop (i+1))).length=n*8:=by
  rw[mR];simp;omega
 exact Gt hrow (i*8) (lV x) n hcap (by show i*8+8<=_;omega) _ hl (lRq _) (by rw[<- e];exact List.take_of_length_le (by omega))
def Xy (w w':World) (e:Ending) (base:Nat) (v:Value) (l:List Ask):Prop :=
 ∃ v',e=.returned v'∧w'.ownsRow base 95 8 v' l.length (aL l)∧w.grownBy w' v.ownBlock
theorem aF.ai8 {w w':World} {g:Nat} (h:aF w w' (fun k=>k=g)):w.grownBy w' (some g):=⟨h.os,h.tape,h.output,h.size,fun k hk hn=>h.block k hk (fun e=>hn (by rw[e]))⟩
theorem ai9 (base g n cap A:Nat) (a:Ask) (l:List Ask) (w:World) (hn':n<=100000) (hcap:n<=cap) (ig:Hid (l.length=n)) (hrow:Hid (w.ownsRow base 95 8 (.slice (some ⟨g,0,none⟩) n cap) n (aL l))) (hA:Hid (w.heap[A]?=some (.cells (bw a) 95 (0,0)))) (aja:Hid (g≠A)) :
  Calls Tryz.prog 218 #[.slice (some ⟨g,0,none⟩) n cap,.func (.func 219) #[] #[.pointer (some ⟨A,0,none⟩)]] w fun e w'=>Xy w w' e base (.slice (some ⟨g,0,none⟩) n cap) (af.others a l):=by
 have HI:=hDq (ai4 base g n cap A a l w hn' ig hrow hA);go_enter Tryz.func218,Tryz.ntmps218
 go_wp2_with fail
 refine HI.out.mono ?_;rintro e w2 ⟨h1 | ⟨kF,hk0,rfl,hno,Xz⟩,hb2⟩
 ·obtain⟨rfl,hno⟩:=h1
  have rR:=hDq (af.Xu hno);have HB2:=hDq hb2;clear hno hb2 HI;simp only[];go_wp2;go_ret;refine⟨_,rfl,?_,?_⟩
  ·rw[rR.out,ig.out];exact bR hrow.out HB2.out
  ·exact⟨HB2.out.os,HB2.out.tape,HB2.out.output,HB2.out.size,fun k hk _=>HB2.out.block k hk⟩
 ·have hkl:kF<l.length:=by rw[ig.out];exact hk0
  have H0:Hid (af.others a (l.take (kF+1))=l.take kF):=by
   show _=_;rw[af.HV hkl,af.Xt,af.Xu hno,Xz];simp
  have HB2:=hDq hb2;clear hno Xz hb2 HI;have hne:¬ ((kF:Int) = -1):=by omega
  simp only[]
  go_wp2_with fail
  go_loopw [5,6] (fun iv lz wr=>∃ i j:Nat,i<j∧j<=n∧iv=.int .i64 i∧lz=.int .i64 j∧i=(af.others a (l.take j)).length∧wr.ownsRow base 95 8 (.slice (some ⟨g,0,none⟩) n cap) n (aL (af.others a (l.take j)++l.drop i))∧aF w wr (fun k=>k=g)) (fun _ lz _=>n-(intOf lz).toNat)
  case atStart =>
   refine⟨kF,kF+1,by omega,hk0,rfl,by go_num,?_,?_,aF.of_below HB2.out _⟩
   ·rw[H0.out,lKq];omega
   ·rw[H0.out,List.take_append_drop];exact bR hrow.out HB2.out
  case round =>
   obtain⟨i,j,hij,hj,rfl,rfl,hi,hr,ht⟩:=hrel;have HR:=hDq hr;have HT:=hDq ht;have HL:=hDq hi;clear hr ht hi;have hin:(i:Int)<n:=by omega
   by_cases hlt:j<n
   ·have a_:(j:Int)<n:=by omega
    have uh:j<l.length:=by rw[ig.out];exact hlt
    have vF:(af.others a (l.take j)++l.drop i).length=n:=by
     rw[lAq,<- HL.out,List.length_drop,ig.out];omega
    have hat:cg (af.others a (l.take j)++l.drop i) j=cg l j:=by
     unfold cg;rw[gE,gE,List.getElem?_append_right (by rw[<- HL.out];omega),<- HL.out,List.getElem?_drop];congr 2;omega
    obtain⟨c0,c1,c2,c3,c4,c5,c6,c7⟩:=rQ HR.out (by rw[vF];exact hlt) hlt;rw[hat]at c0 c1 c2 c3 c4 c5 c6 c7;have rJ:g<wr.heap.size:=bCq _ _ c0;have aoJ:g≠wr.heap.size:=by omega
    have kG:Hid (af.others a (l.take (j+1))=af.others a (l.take j)++if af.same a (cg l j)=true then [] else [cg l j]):=by
     show _=_;rw[af.HV uh,af.Xt]
    have ua:=hDq vF;have HC:Hid (∀ W',Below wr.heap.size wr W'->Calls Tryz.prog 219 #[cr (cg l j),.pointer (some ⟨A,0,none⟩)] W' fun e w'=>e=.returned (.bool (af.same a (cg l j)))∧Below W'.heap.size W' w'):=fun W' hb=>Xv A a (cg l j) W' (iT hb ((HT.out.block A (lBq hA.out) (fun e=>aja.out e.symm)).trans hA.out));clear hat vF;generalize cg l j=x at *;have au:Hid (Below wr.heap.size wr (wr.alloc (.cells (bw x) 95))):=(bRq _ _).alloc (lRq _) _;have dL:=hDq (hNq wr (.cells (bw x) 95));unfold cr bw at *
    go_wp2_with fail
    refine(HC.out _ au.out).mono ?_;rintro e w4 ⟨rfl,hb4⟩;have bg:=hDq (au.out.trans (hb4.mono au.out.size));have kq:=hDq (iT hb4 dL.out);have bF:=hDq (bR HR.out bg.out);have XA:Hid (aF w w4 (fun k=>k=g)):=HT.out.trans (aF.of_below bg.out _) (fun _ h=>.inl h);have aoK:wr.heap.size<w4.heap.size:=lBq kq.out;clear hb4 HC au dL c0 c1 c2 c3 c4 c5 c6 c7;cases hx:af.same a x with
    | true =>
     rw[hx,if_pos rfl,aNq]at kG;clear hx;simp only[];go_wp2;refine⟨⟨i,j+1,by omega,hlt,rfl,by go_num,?_,?_,XA.out⟩,by simp[intOf];omega⟩
     ·rw[kG.out];exact HL.out
     ·rw[kG.out];exact bF.out
    | false =>
     rw[hx,if_neg (by decide)]at kG;clear hx;obtain⟨d0,d1,d2,d3,d4,d5,jA,pG⟩:=rQ bF.out (k:=i) (by rw[ua.out];omega) (by omega);generalize cg (af.others a (l.take j)++l.drop i) i=y at *;have f0:w4.frozen? ⟨g,i*8,none⟩=false:=(lw bF.out (i*8) (by omega)).2.1;have f1:w4.frozen? ⟨g,i*8+1,none⟩=false:=(lw bF.out (i*8+1) (by omega)).2.1;have f2:w4.frozen? ⟨g,i*8+2,none⟩=false:=(lw bF.out (i*8+2) (by omega)).2.1;have f3:w4.frozen? ⟨g,i*8+3,none⟩=false:=(lw bF.out (i*8+3) (by omega)).2.1;have f4:w4.frozen? ⟨g,i*8+4,none⟩=false:=(lw bF.out (i*8+4) (by omega)).2.1;have f5:w4.frozen? ⟨g,i*8+5,none⟩=false:=(lw bF.out (i*8+5) (by omega)).2.1;have f6:w4.frozen? ⟨g,i*8+6,none⟩=false:=(lw bF.out (i*8+6) (by omega)).2.1;have f7:w4.frozen? ⟨g,i*8+7,none⟩=false:=(lw bF.out (i*8+7) (by omega)).2.1;have b0:w4.cell? ⟨wr.heap.size,0,none⟩=some (.int .u8 x.k):=by rw[cR _ _ _ _ _ _ kq.out];rfl
     have b1:w4.cell? ⟨wr.heap.size,1,none⟩=some (.int .i64 x.c):=by rw[cR _ _ _ _ _ _ kq.out];rfl
     have b2:w4.cell? ⟨wr.heap.size,2,none⟩=some (.int .i64 x.sq):=by rw[cR _ _ _ _ _ _ kq.out];rfl
     have b3:w4.cell? ⟨wr.heap.size,3,none⟩=some (.int .i64 x.it):=by rw[cR _ _ _ _ _ _ kq.out];rfl
     have b4:w4.cell? ⟨wr.heap.size,4,none⟩=some (.int .i64 x.sd):=by rw[cR _ _ _ _ _ _ kq.out];rfl
     have b5:w4.cell? ⟨wr.heap.size,5,none⟩=some (.int .i64 x.pr):=by rw[cR _ _ _ _ _ _ kq.out];rfl
     have b6:w4.cell? ⟨wr.heap.size,6,none⟩=some (.int .i64 x.q):=by rw[cR _ _ _ _ _ _ kq.out];rfl
     have b7:w4.cell? ⟨wr.heap.size,7,none⟩=some (.int .i64 x.id):=by rw[cR _ _ _ _ _ _ kq.out];rfl
     have HP:=hDq (ai7 bF.out ua.out hcap (i:=i) (by omega) x);have ajb:Hid (aF w (w4.setCells g (i*8) (lV x)) (fun k=>k=g)):=XA.out.trans (aF.setCells w4 g (lV x) (i*8)) (fun _ h=>.inl h);have HE:Hid ((af.others a (l.take j)++l.drop i).take i++x::(af.others a (l.take j)++l.drop i).drop (i+1)=af.others a (l.take (j+1))++l.drop (i+1)):=by
      show _=_;rw[kG.out];have hl:=HL.out;generalize af.others a (l.take j)=O at *;subst hl;rw[List.take_left,List.drop_append,List.drop_of_length_le (by omega),List.nil_append,List.drop_drop,show O.length+(O.length+1-O.length)=O.length+1 by omega];simp
     rw[HE.out]at HP;simp only[];go_wp2;refine⟨⟨i+1,j+1,by omega,hlt,by go_num,by go_num,?_,HP.out,ajb.out⟩,by simp[intOf];omega⟩;rw[kG.out,lAq,<- HL.out];rfl
   ·have a_:¬ (j:Int)<n:=by omega
    obtain rfl:j=n:=by omega
    have abE:i≠cap:=by omega
    obtain⟨zs,hzl,hcl⟩:=ai6 wr g (i*8) (j-i) (cap-i) (by omega) (fun t ht=>(lw HR.out _ (by omega)).1) (fun t ht=>(lw HR.out _ (by omega)).2.1);have hO:af.others a (l.take j)=af.others a l:=by rw[<- ig.out,List.take_length]
    have ek:Hid ((wr.setCells g (i*8) zs).ownsRow base 95 8 (.slice (some ⟨g,0,none⟩) i cap) i (aL (af.others a l))):=by
     have hl:=HL.out;rw[hO]at hl;have hr:=HR.out;rw[hO]at hr;refine Gt hr (i*8) zs i (by omega) (by rw[hzl];omega) _ (by rw[mR,<- hl]) (by omega) ?_;rw[UX _ i (by rw[lAq];omega),aAq,List.take_append_of_le_length (by rw[mR,lKq,lAq];omega)];rw[show (af.others a l++l.drop i).take i=af.others a l by rw[hl,List.take_left],List.take_of_length_le (by rw[mR,<- hl];omega)]
    have ajc:Hid (aF w (wr.setCells g (i*8) zs) (fun k=>k=g)):=HT.out.trans (aF.setCells wr g zs (i*8)) (fun _ h=>.inl h);have ajd:Hid (i=(af.others a l).length):=by rw[<- hO];exact HL.out
    have aoL:i<=cap:=by omega
    have aoM:i<=j:=by omega
    clear hO hzl;go_wp2;go_ret;exact⟨_,rfl,by rw[<- ajd.out];exact ek.out,ajc.out.ai8⟩
theorem ai0 (base A:Nat) (v:Value) (a:Ask) (l:List Ask) (w:World) (hn:l.length<=100000) (hrow:w.ownsRow base 95 8 v l.length (aL l)) (hA:w.heap[A]?=some (.cells (bw a) 95 (0,0))) (hne:v.ownBlock≠some A) :
  Calls Tryz.prog 218 #[v,.func (.func 219) #[] #[.pointer (some ⟨A,0,none⟩)]] w fun e w'=>Xy w w' e base v (af.others a l):=by
 rcases hrow.2 with ⟨rfl,hl⟩ | ⟨g,cap,cur,rfl,_,_,hcap,_⟩
 ·have e:l=[]:=List.length_eq_zero_iff.1 hl
  subst e;have HI:=hDq (fun f=>ai5 none f w);have HR:=hDq hrow;clear hrow hA hne hn hl;go_enter Tryz.func218,Tryz.ntmps218
  go_wp2_with fail
  refine(HI.out _).mono ?_;rintro e w2 ⟨rfl,rfl⟩;simp only[];go_wp2;go_ret;exact⟨_,rfl,HR.out,⟨rfl,rfl,rfl,lRq _,fun _ _ _=>rfl⟩⟩
 ·exact ai9 base g l.length cap A a l w hn hcap rfl hrow hA (fun e=>hne (by rw[e];rfl))
section
variable {w W W':World} {ad:Nat->Addr} {b0 q:Nat} {B:cz} {X X' X2:cm} {wd h seed:Int} {S:af.St} {vp vr:Value} {r:af.cJ}
theorem bI.Ht {D:Nat} {cur:Array Value} {fz:Nat×Nat} (R:bI w b0 W B X wd h seed S q vp vr r) (hk:W.heap[D]?=some (.cells cur 197 fz)) (hD:¬ iG B X D) (hs:aH W W' D) (hlo:w.heap.size<=D):bI w b0 W' B X wd h seed S q vp vr r:=by
 have ht:aF W W' (fun k=>k=D):=⟨hs.os,hs.tape,hs.output,hs.size,fun k hk hn=>hs.block k hk hn⟩;have key:∀ {base:Nat} {e:TypeId} {sz n:Nat} {v:Value} {xs:List Value},W.ownsRow base e sz v n xs->e≠197->W'.ownsRow base e sz v n xs:=fun {base e sz n v xs} p7 hne=>fJ p7 ht (fun k hk2 e1=>by
  obtain⟨_,cur,h2⟩:=ep p7 hk2;exact aA h2 hk hne e1)
 refine⟨R.bQ.aside ht (aA R.bQ.fl.blk hk (by decide)) (fun k hv e=>hD (by rw[<- e];exact hv)) (fun k e=>by rw[e];exact hlo),?_,key R.pl (by decide),key R.rp (by decide),R.lo,R.l6,lTq R.hib hs.size,R.wH,R.all⟩;rw[hs.block q (lBq R.blk) (aA R.blk hk (by decide))];exact R.blk
theorem aiX (a:Ask) (W:World) (R:Hid (bI w b0 W B X wd h seed S q vp vr r)) (hs:Hid (cP w ad)) (hn:r.rp.length<=100000) (hp:r.pl.length<=100000) :
  Calls Tryz.prog 189 #[.pointer (some ⟨q,0,none⟩),cr a] W fun e w'=>e=.returned (.tuple #[])∧Ct w b0 W w' B X wd h seed S q (af.wI r a):=by
 have cp:Hid (bI w b0 (W.alloc (.cells (bw a) 95)) B X wd h seed S q vp vr r):=R.out.later ((bRq _ _).alloc (lRq _) _);have HB1:Hid (Below W.heap.size W (W.alloc (.cells (bw a) 95))):=(bRq _ _).alloc (lRq _) _;have HA1:=hDq (hNq W (.cells (bw a) 95));have HW1:Hid (W.heap.size<(W.alloc (.cells (bw a) 95)).heap.size):=by show _<_;simp
 have HP:Hid (∀ W',Below (W.alloc (.cells (bw a) 95)).heap.size (W.alloc (.cells (bw a) 95)) W'->Calls Tryz.prog 217 #[.pointer (some ⟨B.F,0,none⟩),cr a] W' fun e w'=>e=.returned (.tuple #[bJ (Fl.fy r.L a),cw (wJ ad) (Fl.cW r.L r.pf a)])∧∃ X',bI w b0 w' B X' wd h seed S q vp vr { r with L:=Fl.dZ r.L a,pf:=Fl.jE r.L r.pf a }∧bS W' w' b0 B X X'∧aF W' w' (fun k=>m_ B X k)):=fun W' hb=>by
  have R':=cp.out.later hb;refine(adJ a R'.fl hs.out.Cu R'.all.ok).mono ?_;rintro e w' ⟨rfl,v',h1,h2⟩;exact⟨rfl,_,R'.floor h1 h2 ⟨R'.all.ok.cancel a,R'.all.qc,R'.all.rule⟩⟩
 have hle:=Fl.aiY r.L r.pf a;have HRR:Hid (af.wI r a = { r with L:=Fl.dZ r.L a,pf:=Fl.jE r.L r.pf a,pl:=if Fl.cW r.L r.pf a=0 then af.others a r.pl else r.pl,rp:=r.rp++if Fl.cW r.L r.pf a=0 then [af.tell af.pM (Fl.fy r.L a)] else [af.kr a.c a.id (Fl.cW r.L r.pf a+1)] }):=rfl;generalize af.wI r a=rr at *;generalize Fl.cW r.L r.pf a=pc at *;generalize Fl.fy r.L a=x at *;obtain⟨rL,N7⟩:∃ rL:af.cJ,rL = { r with L:=Fl.dZ r.L a,pf:=Fl.jE r.L r.pf a }:=⟨_,rfl⟩;rw[<- N7]at HP;have ua:=hDq N7;clear N7;have ho:∀ k,m_ B X k->k<W.heap.size:=fun k hk=>N8 R.out.bQ hk;cases pc with
 | succ d =>
  rw[show cw (wJ ad) (d+1)=.iface 412 (.pointer (some (ad (d+1)))) from rfl]at HP;rw[if_neg (by omega),if_neg (by omega)]at HRR;unfold cr bw bJ at *;go_enter Tryz.func189,Tryz.ntmps189;go_wp2;generalize W.alloc (.cells #[.int .u8 a.k,.int .i64 a.c,.int .i64 a.sq,.int .i64 a.it,.int .i64 a.sd,.int .i64 a.pr,.int .i64 a.q,.int .i64 a.id] 95)=W1 at *;obtain⟨bZ,val,hcl,aW⟩:=Xp (fun W'=>W'.heap[W.heap.size]?=some (.cells #[.int .u8 a.k,.int .i64 a.c,.int .i64 a.sq,.int .i64 a.it,.int .i64 a.sd,.int .i64 a.pr,.int .i64 a.q,.int .i64 a.id] 95 (0,0))∧W'.cell? ⟨q,0,none⟩=some (.pointer (some ⟨B.F,0,none⟩)));have aV:Hid (∀ W',W'.heap[W.heap.size]?=some (.cells #[.int .u8 a.k,.int .i64 a.c,.int .i64 a.sq,.int .i64 a.it,.int .i64 a.sd,.int .i64 a.pr,.int .i64 a.q,.int .i64 a.id] 95 (0,0))->W'.cell? ⟨q,0,none⟩=some (.pointer (some ⟨B.F,0,none⟩))->∃ x,val x=W'):=fun W' h1 h2=>aW W' ⟨h1,h2⟩;obtain⟨x0,hx0⟩:=aV.out W1.drew HA1.out cp.out.cells.1;have hnx:Nonempty bZ:=⟨x0⟩;have s0:∀ x0,(val x0).cell? ⟨W.heap.size,0,none⟩=some (.int .u8 a.k):=fun x0=>by rw[cR _ _ _ _ _ _ (hcl x0).1];rfl
  have s1:∀ x0,(val x0).cell? ⟨W.heap.size,1,none⟩=some (.int .i64 a.c):=fun x0=>by rw[cR _ _ _ _ _ _ (hcl x0).1];rfl
  have s2:∀ x0,(val x0).cell? ⟨W.heap.size,2,none⟩=some (.int .i64 a.sq):=fun x0=>by rw[cR _ _ _ _ _ _ (hcl x0).1];rfl
  have s3:∀ x0,(val x0).cell? ⟨W.heap.size,3,none⟩=some (.int .i64 a.it):=fun x0=>by rw[cR _ _ _ _ _ _ (hcl x0).1];rfl
  have tO:∀ x0,(val x0).cell? ⟨W.heap.size,4,none⟩=some (.int .i64 a.sd):=fun x0=>by rw[cR _ _ _ _ _ _ (hcl x0).1];rfl
  have Hu:∀ x0,(val x0).cell? ⟨W.heap.size,5,none⟩=some (.int .i64 a.pr):=fun x0=>by rw[cR _ _ _ _ _ _ (hcl x0).1];rfl
  have Hw:∀ x0,(val x0).cell? ⟨W.heap.size,6,none⟩=some (.int .i64 a.q):=fun x0=>by rw[cR _ _ _ _ _ _ (hcl x0).1];rfl
  have Cw:∀ x0,(val x0).cell? ⟨W.heap.size,7,none⟩=some (.int .i64 a.id):=fun x0=>by rw[cR _ _ _ _ _ _ (hcl x0).1];rfl
  have rh:∀ x0,(val x0).cell? ⟨q,0,none⟩=some (.pointer (some ⟨B.F,0,none⟩)):=fun x0=>(hcl x0).2;obtain⟨w4,hw4⟩:∃ w4,W1.drew=w4:=⟨_,rfl⟩;have gU:Hid (Below W1.heap.size W1 w4):=by rw[<- hw4];exact iU
  clear aW hcl;refine xU (val:=val) (fun D aj=>∃ X2,bI w b0 aj B X2 wd h seed S q vp vr rL∧bS W1 aj b0 B X X2∧aj.heap[D]?=some (.cells #[.int .i64 x.id,.int .i64 x.ak,.int .i64 x.sd,.int .i64 x.pr,.int .i64 x.q] 197 (0,0))∧W1.heap.size<=D∧aj.heap[W.heap.size]?=some (.cells #[.int .u8 a.k,.int .i64 a.c,.int .i64 a.sq,.int .i64 a.it,.int .i64 a.sd,.int .i64 a.pr,.int .i64 a.q,.int .i64 a.id] 95 (0,0))) (.read 0 (.read 1 (.read 2 (.read 3 (.read 4 (.two 5 (.read 6 (.read 7 (.read 8 (.one 9 (.one 10 (.read 11 .done)))))) 9 (.one 5 (.read 6 (.read 7 (.read 8 (.one 10 (.read 11 .done)))))))))))) (by kernel_rfl) (by kernel_rfl) x0 hx0 ?_;apply Exists.intro;refine⟨?_,?_⟩
  case' refine_1 =>
   rw[hx0,hw4]
   iterate 5 (refine cF rfl (fun K hK=>?_);refine⟨by rfl,?_⟩;unfold aI;go_simp;refine hK _ ?_;clear hK K)
   refine⟨?_,?_⟩
   case refine_1 =>
    refine b_ rfl (fun K hK=>?_);refine⟨by rfl,?_⟩;unfold aR;go_simp;refine(HP.out _ gU.out).mono ?_;rintro e wc ⟨rfl,X2,h1,h2,h3⟩;have rP:=hDq h1;have Cx:=hDq ((bS.below gU.out b0 B X).trans h2);have wK:=hDq ((h3.block W.heap.size (Nat.lt_of_lt_of_le HW1.out gU.out.size) (fun e=>by have:=ho _ e;omega)).trans (iT gU.out HA1.out));have Cy:Hid (W1.heap.size<=wc.heap.size):=lTq gU.out.size h2.turned.size;refine⟨_,rfl,aV.out _ wK.out rP.out.cells.1,hK _ _ ?_⟩;clear hK K h1 h2 h3
    iterate 3 (refine cF rfl (fun K hK=>?_);refine⟨by rfl,?_⟩;unfold aI;go_simp;refine hK _ ?_;clear hK K)
    refine b_ rfl (fun K hK=>?_);refine⟨by rfl,?_⟩;unfold aR;go_simp;have hba:Below wc.heap.size wc (wc.alloc (.cells #[.int .i64 0,.int .i64 0,.int .i64 0,.int .i64 0,.int .i64 0] 197)):=(bRq _ _).alloc (lRq _) _;have ay:=hDq (hNq wc (.cells #[.int .i64 0,.int .i64 0,.int .i64 0,.int .i64 0,.int .i64 0] 197));have ek:=hDq (rP.out.later hba);have lm:=hDq (Cx.out.trans (bS.below hba b0 B X2));have ly:=hDq (iT hba wK.out);have fU:Hid (¬ iG B X2 wc.heap.size):=fun e=>by have:=(rP.out.bQ.iR e).2;omega
    have gV:=hDq Cy.out;refine⟨aV.out _ ly.out ek.out.cells.1,hK _ _ ?_⟩;clear hK K hba rP Cx wK Cy;generalize wc.alloc (.cells #[.int .i64 0,.int .i64 0,.int .i64 0,.int .i64 0,.int .i64 0] 197)=ar at *;generalize wc.heap.size=aX at *;have c0:ar.cell? ⟨aX,0,none⟩=some (.int .i64 0):=by rw[cR _ _ _ _ _ _ ay.out];rfl
    have f0:ar.frozen? ⟨aX,0,none⟩=false:=by simp[World.frozen?,ay.out]
    have c1:ar.cell? ⟨aX,1,none⟩=some (.int .i64 0):=by rw[cR _ _ _ _ _ _ ay.out];rfl
    have f1:ar.frozen? ⟨aX,1,none⟩=false:=by simp[World.frozen?,ay.out]
    have c2:ar.cell? ⟨aX,2,none⟩=some (.int .i64 0):=by rw[cR _ _ _ _ _ _ ay.out];rfl
    have f2:ar.frozen? ⟨aX,2,none⟩=false:=by simp[World.frozen?,ay.out]
    have c3:ar.cell? ⟨aX,3,none⟩=some (.int .i64 0):=by rw[cR _ _ _ _ _ _ ay.out];rfl
    have f3:ar.frozen? ⟨aX,3,none⟩=false:=by simp[World.frozen?,ay.out]
    have c4:ar.cell? ⟨aX,4,none⟩=some (.int .i64 0):=by rw[cR _ _ _ _ _ _ ay.out];rfl
    have f4:ar.frozen? ⟨aX,4,none⟩=false:=by simp[World.frozen?,ay.out]
    have HX:=hDq (nH ay.out x.id x.ak x.sd x.pr x.q);have dW:=hDq (vu ar aX (.int .i64 x.id) (.int .i64 x.ak) (.int .i64 x.sd) (.int .i64 x.pr) (.int .i64 x.q));have pN:=hDq (ek.out.Ht ay.out fU.out dW.out (lTq R.out.l6 (lTq R.out.hib (lTq HB1.out.size gV.out))));have wL:=hDq (lm.out.trans (bS.high (b0:=b0) ⟨dW.out.os,dW.out.tape,dW.out.output,dW.out.size,fun k hk hn=>dW.out.block k hk (fun e=>hn (by rw[e];exact lTq R.out.hib (lTq HB1.out.size gV.out)))⟩ B X2));have lX:=hDq ((dW.out.block W.heap.size (lBq ly.out) (by have:=gV.out;have:=HW1.out;omega)).trans ly.out);refine b_ rfl (fun K hK=>?_);refine⟨by rfl,?_⟩;unfold aR;go_simp;refine⟨aV.out _ lX.out pN.out.cells.1,hK _ _ ?_⟩;clear hK K c0 c1 c2 c3 c4 f0 f1 f2 f3 f4;generalize ((((ar.setCell ⟨aX,0,none⟩ (.int .i64 x.id)).setCell ⟨aX,1,none⟩ (.int .i64 x.ak)).setCell ⟨aX,2,none⟩ (.int .i64 x.sd)).setCell ⟨aX,3,none⟩ (.int .i64 x.pr)).setCell ⟨aX,4,none⟩ (.int .i64 x.q)=wx at *;refine cF rfl (fun K hK=>?_);refine⟨by rfl,?_⟩;unfold aI;go_simp;refine hK _ ?_;clear hK K;refine kD ?_;exact⟨aX,rfl,X2,pN.out,wL.out,HX.out,gV.out,lX.out⟩
   case refine_2 =>
    refine b_ rfl (fun K hK=>?_);refine⟨by rfl,?_⟩;unfold aR;go_simp;have hba:Below w4.heap.size w4 (w4.alloc (.cells #[.int .i64 0,.int .i64 0,.int .i64 0,.int .i64 0,.int .i64 0] 197)):=(bRq _ _).alloc (lRq _) _;have dU:Hid (Below W1.heap.size W1 (w4.alloc (.cells #[.int .i64 0,.int .i64 0,.int .i64 0,.int .i64 0,.int .i64 0] 197))):=gU.out.alloc gU.out.size _;have qQ:=hDq (hNq w4 (.cells #[.int .i64 0,.int .i64 0,.int .i64 0,.int .i64 0,.int .i64 0] 197));have gV:Hid (W1.heap.size<=w4.heap.size):=gU.out.size;have ln:Hid (w4.heap.size<(w4.alloc (.cells #[.int .i64 0,.int .i64 0,.int .i64 0,.int .i64 0,.int .i64 0] 197)).heap.size):=by show _<_;simp
    have Cz:=cp.out.later dU.out;refine⟨aV.out _ (iT dU.out HA1.out) Cz.cells.1,hK _ _ ?_⟩;clear hK K hba Cz;generalize w4.alloc (.cells #[.int .i64 0,.int .i64 0,.int .i64 0,.int .i64 0,.int .i64 0] 197)=iL at *;generalize w4.heap.size=aX at *;refine b_ rfl (fun K hK=>?_);refine⟨by rfl,?_⟩;unfold aR;go_simp;refine(HP.out _ dU.out).mono ?_;rintro e ar ⟨rfl,X2,h1,h2,h3⟩;have ay:=hDq ((h3.block aX ln.out (fun e=>by have:=ho _ e;have:=gV.out;have:=HW1.out;omega)).trans qQ.out);have ek:=hDq h1;have lm:=hDq ((bS.below dU.out b0 B X).trans h2);have ly:=hDq ((h3.block W.heap.size (Nat.lt_of_lt_of_le HW1.out dU.out.size) (fun e=>by have:=ho _ e;omega)).trans (iT dU.out HA1.out));have fU:Hid (¬ iG B X2 aX):=fun e=>by
     have hq:=h2.qv;have hd:=h2.bH;have hlt:∀ k,iG B X k->k<W.heap.size:=fun k hk=>(R.out.bQ.iR hk).2;have nc:aX<W.heap.size∨iL.heap.size<=aX:=by
      rcases e with e | e | e | e | e | e
      ·exact .inl (by rw[e];exact hlt _ (.inl rfl))
      ·exact .inl (by rw[e];exact hlt _ (.inr (.inl rfl)))
      ·rcases h2.new aX (.inr e) with h8 | h8
       ·exact .inl (ho _ h8)
       ·exact .inr h8
      ·rw[hq]at e;exact .inl (hlt _ (.inr (.inr (.inr (.inl e)))))
      ·exact .inl (by rw[e];exact hlt _ (.inr (.inr (.inr (.inr (.inl rfl))))))
      ·rw[hd]at e;exact .inl (hlt _ (.inr (.inr (.inr (.inr (.inr e))))))
     have:=ln.out;have:=gV.out;have:=HW1.out
     omega
    refine⟨_,rfl,aV.out _ ly.out ek.out.cells.1,hK _ _ ?_⟩;clear hK K h1 h2 h3 qQ dU ln
    iterate 3 (refine cF rfl (fun K hK=>?_);refine⟨by rfl,?_⟩;unfold aI;go_simp;refine hK _ ?_;clear hK K)
    have c0:ar.cell? ⟨aX,0,none⟩=some (.int .i64 0):=by rw[cR _ _ _ _ _ _ ay.out];rfl
    have f0:ar.frozen? ⟨aX,0,none⟩=false:=by simp[World.frozen?,ay.out]
    have c1:ar.cell? ⟨aX,1,none⟩=some (.int .i64 0):=by rw[cR _ _ _ _ _ _ ay.out];rfl
    have f1:ar.frozen? ⟨aX,1,none⟩=false:=by simp[World.frozen?,ay.out]
    have c2:ar.cell? ⟨aX,2,none⟩=some (.int .i64 0):=by rw[cR _ _ _ _ _ _ ay.out];rfl
    have f2:ar.frozen? ⟨aX,2,none⟩=false:=by simp[World.frozen?,ay.out]
    have c3:ar.cell? ⟨aX,3,none⟩=some (.int .i64 0):=by rw[cR _ _ _ _ _ _ ay.out];rfl
    have f3:ar.frozen? ⟨aX,3,none⟩=false:=by simp[World.frozen?,ay.out]
    have c4:ar.cell? ⟨aX,4,none⟩=some (.int .i64 0):=by rw[cR _ _ _ _ _ _ ay.out];rfl
    have f4:ar.frozen? ⟨aX,4,none⟩=false:=by simp[World.frozen?,ay.out]
    have HX:=hDq (nH ay.out x.id x.ak x.sd x.pr x.q);have dW:=hDq (vu ar aX (.int .i64 x.id) (.int .i64 x.ak) (.int .i64 x.sd) (.int .i64 x.pr) (.int .i64 x.q));have pN:=hDq (ek.out.Ht ay.out fU.out dW.out (lTq R.out.l6 (lTq R.out.hib (lTq HB1.out.size gV.out))));have wL:=hDq (lm.out.trans (bS.high (b0:=b0) ⟨dW.out.os,dW.out.tape,dW.out.output,dW.out.size,fun k hk hn=>dW.out.block k hk (fun e=>hn (by rw[e];exact lTq R.out.hib (lTq HB1.out.size gV.out)))⟩ B X2));have lX:=hDq ((dW.out.block W.heap.size (lBq ly.out) (by have:=gV.out;have:=HW1.out;omega)).trans ly.out);refine b_ rfl (fun K hK=>?_);refine⟨by rfl,?_⟩;unfold aR;go_simp;refine⟨aV.out _ lX.out pN.out.cells.1,hK _ _ ?_⟩;clear hK K c0 c1 c2 c3 c4 f0 f1 f2 f3 f4;generalize ((((ar.setCell ⟨aX,0,none⟩ (.int .i64 x.id)).setCell ⟨aX,1,none⟩ (.int .i64 x.ak)).setCell ⟨aX,2,none⟩ (.int .i64 x.sd)).setCell ⟨aX,3,none⟩ (.int .i64 x.pr)).setCell ⟨aX,4,none⟩ (.int .i64 x.q)=wx at *;refine cF rfl (fun K hK=>?_);refine⟨by rfl,?_⟩;unfold aI;go_simp;refine hK _ ?_;clear hK K;refine kD ?_;exact⟨aX,rfl,X2,pN.out,wL.out,HX.out,gV.out,lX.out⟩
  intro D aj ⟨X2,h1,h2,h3,h4,h5⟩;clear hx0 hw4 s0 s1 s2 s3 tO Hu Hw Cw rh aV gU;clear x0 hnx;clear val;clear bZ;have bu:=hDq h1;have eA:=hDq ((bS.below HB1.out b0 B X).trans h2);have HD6:=hDq h3;have hZ:=hDq h5;have aiZ:=hDq h4;clear h1 h2 h3 h4 h5;have kF:aj.cell? ⟨W.heap.size,0,none⟩=some (.int .u8 a.k):=by rw[cR _ _ _ _ _ _ hZ.out];rfl
  have k1:aj.cell? ⟨W.heap.size,1,none⟩=some (.int .i64 a.c):=by rw[cR _ _ _ _ _ _ hZ.out];rfl
  have k2:aj.cell? ⟨W.heap.size,2,none⟩=some (.int .i64 a.sq):=by rw[cR _ _ _ _ _ _ hZ.out];rfl
  have k3:aj.cell? ⟨W.heap.size,3,none⟩=some (.int .i64 a.it):=by rw[cR _ _ _ _ _ _ hZ.out];rfl
  have k4:aj.cell? ⟨W.heap.size,4,none⟩=some (.int .i64 a.sd):=by rw[cR _ _ _ _ _ _ hZ.out];rfl
  have tv:aj.cell? ⟨W.heap.size,5,none⟩=some (.int .i64 a.pr):=by rw[cR _ _ _ _ _ _ hZ.out];rfl
  have k6:aj.cell? ⟨W.heap.size,6,none⟩=some (.int .i64 a.q):=by rw[cR _ _ _ _ _ _ hZ.out];rfl
  have k7:aj.cell? ⟨W.heap.size,7,none⟩=some (.int .i64 a.id):=by rw[cR _ _ _ _ _ _ hZ.out];rfl
  have HF:=hDq (Xq a (d+1) (by omega) aj hs bu.out (by rw[ua.out];exact hn));unfold cr bw at HF
  go_wp2_with fail
  refine HF.out.mono ?_;rintro e bh ⟨rfl,uf,h3,h4,_⟩;have H3:=hDq h3;have gT:=hDq (eA.out.trans h4);clear h3 h4;simp only[];go_wp2;refine bodyPost_ret (v:=.tuple #[]) (by simp[results,Tryz.results189]) rfl ?_;refine⟨rfl,X2,vp,uf,?_,gT.out⟩;have nc:=H3.out;rw[ua.out]at nc;rw[HRR.out];exact nc
 | zero =>
  rw[show cw (wJ ad) 0=.nilIface from rfl]at HP;rw[if_pos rfl,if_pos rfl]at HRR;unfold cr bw bJ at *;go_enter Tryz.func189,Tryz.ntmps189;go_wp2;generalize W.alloc (.cells #[.int .u8 a.k,.int .i64 a.c,.int .i64 a.sq,.int .i64 a.it,.int .i64 a.sd,.int .i64 a.pr,.int .i64 a.q,.int .i64 a.id] 95)=W1 at *;obtain⟨bZ,val,hcl,aW⟩:=Xp (fun W'=>W'.heap[W.heap.size]?=some (.cells #[.int .u8 a.k,.int .i64 a.c,.int .i64 a.sq,.int .i64 a.it,.int .i64 a.sd,.int .i64 a.pr,.int .i64 a.q,.int .i64 a.id] 95 (0,0))∧W'.cell? ⟨q,0,none⟩=some (.pointer (some ⟨B.F,0,none⟩)));have aV:Hid (∀ W',W'.heap[W.heap.size]?=some (.cells #[.int .u8 a.k,.int .i64 a.c,.int .i64 a.sq,.int .i64 a.it,.int .i64 a.sd,.int .i64 a.pr,.int .i64 a.q,.int .i64 a.id] 95 (0,0))->W'.cell? ⟨q,0,none⟩=some (.pointer (some ⟨B.F,0,none⟩))->∃ x,val x=W'):=fun W' h1 h2=>aW W' ⟨h1,h2⟩;obtain⟨x0,hx0⟩:=aV.out W1.drew HA1.out cp.out.cells.1;have hnx:Nonempty bZ:=⟨x0⟩;have s0:∀ x0,(val x0).cell? ⟨W.heap.size,0,none⟩=some (.int .u8 a.k):=fun x0=>by rw[cR _ _ _ _ _ _ (hcl x0).1];rfl
  have s1:∀ x0,(val x0).cell? ⟨W.heap.size,1,none⟩=some (.int .i64 a.c):=fun x0=>by rw[cR _ _ _ _ _ _ (hcl x0).1];rfl
  have s2:∀ x0,(val x0).cell? ⟨W.heap.size,2,none⟩=some (.int .i64 a.sq):=fun x0=>by rw[cR _ _ _ _ _ _ (hcl x0).1];rfl
  have s3:∀ x0,(val x0).cell? ⟨W.heap.size,3,none⟩=some (.int .i64 a.it):=fun x0=>by rw[cR _ _ _ _ _ _ (hcl x0).1];rfl
  have tO:∀ x0,(val x0).cell? ⟨W.heap.size,4,none⟩=some (.int .i64 a.sd):=fun x0=>by rw[cR _ _ _ _ _ _ (hcl x0).1];rfl
  have Hu:∀ x0,(val x0).cell? ⟨W.heap.size,5,none⟩=some (.int .i64 a.pr):=fun x0=>by rw[cR _ _ _ _ _ _ (hcl x0).1];rfl
  have Hw:∀ x0,(val x0).cell? ⟨W.heap.size,6,none⟩=some (.int .i64 a.q):=fun x0=>by rw[cR _ _ _ _ _ _ (hcl x0).1];rfl
  have Cw:∀ x0,(val x0).cell? ⟨W.heap.size,7,none⟩=some (.int .i64 a.id):=fun x0=>by rw[cR _ _ _ _ _ _ (hcl x0).1];rfl
  have rh:∀ x0,(val x0).cell? ⟨q,0,none⟩=some (.pointer (some ⟨B.F,0,none⟩)):=fun x0=>(hcl x0).2;obtain⟨w4,hw4⟩:∃ w4,W1.drew=w4:=⟨_,rfl⟩;have gU:Hid (Below W1.heap.size W1 w4):=by rw[<- hw4];exact iU
  clear aW hcl;refine xU (val:=val) (fun D aj=>∃ X2,bI w b0 aj B X2 wd h seed S q vp vr rL∧bS W1 aj b0 B X X2∧aj.heap[D]?=some (.cells #[.int .i64 x.id,.int .i64 x.ak,.int .i64 x.sd,.int .i64 x.pr,.int .i64 x.q] 197 (0,0))∧W1.heap.size<=D∧aj.heap[W.heap.size]?=some (.cells #[.int .u8 a.k,.int .i64 a.c,.int .i64 a.sq,.int .i64 a.it,.int .i64 a.sd,.int .i64 a.pr,.int .i64 a.q,.int .i64 a.id] 95 (0,0))) (.read 0 (.read 1 (.read 2 (.read 3 (.read 4 (.two 5 (.read 6 (.read 7 (.read 8 (.one 9 (.one 10 (.read 11 .done)))))) 9 (.one 5 (.read 6 (.read 7 (.read 8 (.one 10 (.read 11 .done)))))))))))) (by kernel_rfl) (by kernel_rfl) x0 hx0 ?_;apply Exists.intro;refine⟨?_,?_⟩
  case' refine_1 =>
   rw[hx0,hw4]
   iterate 5 (refine cF rfl (fun K hK=>?_);refine⟨by rfl,?_⟩;unfold aI;go_simp;refine hK _ ?_;clear hK K)
   refine⟨?_,?_⟩
   case refine_1 =>
    refine b_ rfl (fun K hK=>?_);refine⟨by rfl,?_⟩;unfold aR;go_simp;refine(HP.out _ gU.out).mono ?_;rintro e wc ⟨rfl,X2,h1,h2,h3⟩;have rP:=hDq h1;have Cx:=hDq ((bS.below gU.out b0 B X).trans h2);have wK:=hDq ((h3.block W.heap.size (Nat.lt_of_lt_of_le HW1.out gU.out.size) (fun e=>by have:=ho _ e;omega)).trans (iT gU.out HA1.out));have Cy:Hid (W1.heap.size<=wc.heap.size):=lTq gU.out.size h2.turned.size;refine⟨_,rfl,aV.out _ wK.out rP.out.cells.1,hK _ _ ?_⟩;clear hK K h1 h2 h3
    iterate 3 (refine cF rfl (fun K hK=>?_);refine⟨by rfl,?_⟩;unfold aI;go_simp;refine hK _ ?_;clear hK K)
    refine b_ rfl (fun K hK=>?_);refine⟨by rfl,?_⟩;unfold aR;go_simp;have hba:Below wc.heap.size wc (wc.alloc (.cells #[.int .i64 0,.int .i64 0,.int .i64 0,.int .i64 0,.int .i64 0] 197)):=(bRq _ _).alloc (lRq _) _;have ay:=hDq (hNq wc (.cells #[.int .i64 0,.int .i64 0,.int .i64 0,.int .i64 0,.int .i64 0] 197));have ek:=hDq (rP.out.later hba);have lm:=hDq (Cx.out.trans (bS.below hba b0 B X2));have ly:=hDq (iT hba wK.out);have fU:Hid (¬ iG B X2 wc.heap.size):=fun e=>by have:=(rP.out.bQ.iR e).2;omega
    have gV:=hDq Cy.out;refine⟨aV.out _ ly.out ek.out.cells.1,hK _ _ ?_⟩;clear hK K hba rP Cx wK Cy;generalize wc.alloc (.cells #[.int .i64 0,.int .i64 0,.int .i64 0,.int .i64 0,.int .i64 0] 197)=ar at *;generalize wc.heap.size=aX at *;have c0:ar.cell? ⟨aX,0,none⟩=some (.int .i64 0):=by rw[cR _ _ _ _ _ _ ay.out];rfl
    have f0:ar.frozen? ⟨aX,0,none⟩=false:=by simp[World.frozen?,ay.out]
    have c1:ar.cell? ⟨aX,1,none⟩=some (.int .i64 0):=by rw[cR _ _ _ _ _ _ ay.out];rfl
    have f1:ar.frozen? ⟨aX,1,none⟩=false:=by simp[World.frozen?,ay.out]
    have c2:ar.cell? ⟨aX,2,none⟩=some (.int .i64 0):=by rw[cR _ _ _ _ _ _ ay.out];rfl
    have f2:ar.frozen? ⟨aX,2,none⟩=false:=by simp[World.frozen?,ay.out]
    have c3:ar.cell? ⟨aX,3,none⟩=some (.int .i64 0):=by rw[cR _ _ _ _ _ _ ay.out];rfl
    have f3:ar.frozen? ⟨aX,3,none⟩=false:=by simp[World.frozen?,ay.out]
    have c4:ar.cell? ⟨aX,4,none⟩=some (.int .i64 0):=by rw[cR _ _ _ _ _ _ ay.out];rfl
    have f4:ar.frozen? ⟨aX,4,none⟩=false:=by simp[World.frozen?,ay.out]
    have HX:=hDq (nH ay.out x.id x.ak x.sd x.pr x.q);have dW:=hDq (vu ar aX (.int .i64 x.id) (.int .i64 x.ak) (.int .i64 x.sd) (.int .i64 x.pr) (.int .i64 x.q));have pN:=hDq (ek.out.Ht ay.out fU.out dW.out (lTq R.out.l6 (lTq R.out.hib (lTq HB1.out.size gV.out))));have wL:=hDq (lm.out.trans (bS.high (b0:=b0) ⟨dW.out.os,dW.out.tape,dW.out.output,dW.out.size,fun k hk hn=>dW.out.block k hk (fun e=>hn (by rw[e];exact lTq R.out.hib (lTq HB1.out.size gV.out)))⟩ B X2));have lX:=hDq ((dW.out.block W.heap.size (lBq ly.out) (by have:=gV.out;have:=HW1.out;omega)).trans ly.out);refine b_ rfl (fun K hK=>?_);refine⟨by rfl,?_⟩;unfold aR;go_simp;refine⟨aV.out _ lX.out pN.out.cells.1,hK _ _ ?_⟩;clear hK K c0 c1 c2 c3 c4 f0 f1 f2 f3 f4;generalize ((((ar.setCell ⟨aX,0,none⟩ (.int .i64 x.id)).setCell ⟨aX,1,none⟩ (.int .i64 x.ak)).setCell ⟨aX,2,none⟩ (.int .i64 x.sd)).setCell ⟨aX,3,none⟩ (.int .i64 x.pr)).setCell ⟨aX,4,none⟩ (.int .i64 x.q)=wx at *;refine cF rfl (fun K hK=>?_);refine⟨by rfl,?_⟩;unfold aI;go_simp;refine hK _ ?_;clear hK K;refine kD ?_;exact⟨aX,rfl,X2,pN.out,wL.out,HX.out,gV.out,lX.out⟩
   case refine_2 =>
    refine b_ rfl (fun K hK=>?_);refine⟨by rfl,?_⟩;unfold aR;go_simp;have hba:Below w4.heap.size w4 (w4.alloc (.cells #[.int .i64 0,.int .i64 0,.int .i64 0,.int .i64 0,.int .i64 0] 197)):=(bRq _ _).alloc (lRq _) _;have dU:Hid (Below W1.heap.size W1 (w4.alloc (.cells #[.int .i64 0,.int .i64 0,.int .i64 0,.int .i64 0,.int .i64 0] 197))):=gU.out.alloc gU.out.size _;have qQ:=hDq (hNq w4 (.cells #[.int .i64 0,.int .i64 0,.int .i64 0,.int .i64 0,.int .i64 0] 197));have gV:Hid (W1.heap.size<=w4.heap.size):=gU.out.size;have ln:Hid (w4.heap.size<(w4.alloc (.cells #[.int .i64 0,.int .i64 0,.int .i64 0,.int .i64 0,.int .i64 0] 197)).heap.size):=by show _<_;simp
    have Cz:=cp.out.later dU.out;refine⟨aV.out _ (iT dU.out HA1.out) Cz.cells.1,hK _ _ ?_⟩;clear hK K hba Cz;generalize w4.alloc (.cells #[.int .i64 0,.int .i64 0,.int .i64 0,.int .i64 0,.int .i64 0] 197)=iL at *;generalize w4.heap.size=aX at *;refine b_ rfl (fun K hK=>?_);refine⟨by rfl,?_⟩;unfold aR;go_simp;refine(HP.out _ dU.out).mono ?_;rintro e ar ⟨rfl,X2,h1,h2,h3⟩;have ay:=hDq ((h3.block aX ln.out (fun e=>by have:=ho _ e;have:=gV.out;have:=HW1.out;omega)).trans qQ.out);have ek:=hDq h1;have lm:=hDq ((bS.below dU.out b0 B X).trans h2);have ly:=hDq ((h3.block W.heap.size (Nat.lt_of_lt_of_le HW1.out dU.out.size) (fun e=>by have:=ho _ e;omega)).trans (iT dU.out HA1.out));have fU:Hid (¬ iG B X2 aX):=fun e=>by
     have hq:=h2.qv;have hd:=h2.bH;have hlt:∀ k,iG B X k->k<W.heap.size:=fun k hk=>(R.out.bQ.iR hk).2;have nc:aX<W.heap.size∨iL.heap.size<=aX:=by
      rcases e with e | e | e | e | e | e
      ·exact .inl (by rw[e];exact hlt _ (.inl rfl))
      ·exact .inl (by rw[e];exact hlt _ (.inr (.inl rfl)))
      ·rcases h2.new aX (.inr e) with h8 | h8
       ·exact .inl (ho _ h8)
       ·exact .inr h8
      ·rw[hq]at e;exact .inl (hlt _ (.inr (.inr (.inr (.inl e)))))
      ·exact .inl (by rw[e];exact hlt _ (.inr (.inr (.inr (.inr (.inl rfl))))))
      ·rw[hd]at e;exact .inl (hlt _ (.inr (.inr (.inr (.inr (.inr e))))))
     have:=ln.out;have:=gV.out;have:=HW1.out
     omega
    refine⟨_,rfl,aV.out _ ly.out ek.out.cells.1,hK _ _ ?_⟩;clear hK K h1 h2 h3 qQ dU ln
    iterate 3 (refine cF rfl (fun K hK=>?_);refine⟨by rfl,?_⟩;unfold aI;go_simp;refine hK _ ?_;clear hK K)
    have c0:ar.cell? ⟨aX,0,none⟩=some (.int .i64 0):=by rw[cR _ _ _ _ _ _ ay.out];rfl
    have f0:ar.frozen? ⟨aX,0,none⟩=false:=by simp[World.frozen?,ay.out]
    have c1:ar.cell? ⟨aX,1,none⟩=some (.int .i64 0):=by rw[cR _ _ _ _ _ _ ay.out];rfl
    have f1:ar.frozen? ⟨aX,1,none⟩=false:=by simp[World.frozen?,ay.out]
    have c2:ar.cell? ⟨aX,2,none⟩=some (.int .i64 0):=by rw[cR _ _ _ _ _ _ ay.out];rfl
    have f2:ar.frozen? ⟨aX,2,none⟩=false:=by simp[World.frozen?,ay.out]
    have c3:ar.cell? ⟨aX,3,none⟩=some (.int .i64 0):=by rw[cR _ _ _ _ _ _ ay.out];rfl
    have f3:ar.frozen? ⟨aX,3,none⟩=false:=by simp[World.frozen?,ay.out]
    have c4:ar.cell? ⟨aX,4,none⟩=some (.int .i64 0):=by rw[cR _ _ _ _ _ _ ay.out];rfl
    have f4:ar.frozen? ⟨aX,4,none⟩=false:=by simp[World.frozen?,ay.out]
    have HX:=hDq (nH ay.out x.id x.ak x.sd x.pr x.q);have dW:=hDq (vu ar aX (.int .i64 x.id) (.int .i64 x.ak) (.int .i64 x.sd) (.int .i64 x.pr) (.int .i64 x.q));have pN:=hDq (ek.out.Ht ay.out fU.out dW.out (lTq R.out.l6 (lTq R.out.hib (lTq HB1.out.size gV.out))));have wL:=hDq (lm.out.trans (bS.high (b0:=b0) ⟨dW.out.os,dW.out.tape,dW.out.output,dW.out.size,fun k hk hn=>dW.out.block k hk (fun e=>hn (by rw[e];exact lTq R.out.hib (lTq HB1.out.size gV.out)))⟩ B X2));have lX:=hDq ((dW.out.block W.heap.size (lBq ly.out) (by have:=gV.out;have:=HW1.out;omega)).trans ly.out);refine b_ rfl (fun K hK=>?_);refine⟨by rfl,?_⟩;unfold aR;go_simp;refine⟨aV.out _ lX.out pN.out.cells.1,hK _ _ ?_⟩;clear hK K c0 c1 c2 c3 c4 f0 f1 f2 f3 f4;generalize ((((ar.setCell ⟨aX,0,none⟩ (.int .i64 x.id)).setCell ⟨aX,1,none⟩ (.int .i64 x.ak)).setCell ⟨aX,2,none⟩ (.int .i64 x.sd)).setCell ⟨aX,3,none⟩ (.int .i64 x.pr)).setCell ⟨aX,4,none⟩ (.int .i64 x.q)=wx at *;refine cF rfl (fun K hK=>?_);refine⟨by rfl,?_⟩;unfold aI;go_simp;refine hK _ ?_;clear hK K;refine kD ?_;exact⟨aX,rfl,X2,pN.out,wL.out,HX.out,gV.out,lX.out⟩
  intro D aj ⟨X2,h1,h2,h3,h4,h5⟩;clear hx0 hw4 s0 s1 s2 s3 tO Hu Hw Cw rh aV gU;clear x0 hnx;clear val;clear bZ;have bu:=hDq h1;have eA:=hDq ((bS.below HB1.out b0 B X).trans h2);have HD6:=hDq h3;have hZ:=hDq h5;have aiZ:=hDq h4;clear h1 h2 h3 h4 h5;have kF:aj.cell? ⟨D,0,none⟩=some (.int .i64 x.id):=by rw[cR _ _ _ _ _ _ HD6.out];rfl
  have k1:aj.cell? ⟨D,1,none⟩=some (.int .i64 x.ak):=by rw[cR _ _ _ _ _ _ HD6.out];rfl
  have k2:aj.cell? ⟨D,2,none⟩=some (.int .i64 x.sd):=by rw[cR _ _ _ _ _ _ HD6.out];rfl
  have k3:aj.cell? ⟨D,3,none⟩=some (.int .i64 x.pr):=by rw[cR _ _ _ _ _ _ HD6.out];rfl
  have k4:aj.cell? ⟨D,4,none⟩=some (.int .i64 x.q):=by rw[cR _ _ _ _ _ _ HD6.out];rfl
  have HF:=hDq (Hy af.pM x aj bu.out (by rw[ua.out];exact hn));unfold bJ af.pM at HF
  go_wp2_with fail
  refine HF.out.mono ?_;rintro e bh ⟨rfl,uf,h3,h4,h5⟩;have ug:=hDq (bu.out.block h5 hZ.out (by decide) (by decide));have H3:=hDq h3;have gT:=hDq (eA.out.trans h4);clear h3 h4 h5 HF;have q1:=H3.out.cells.2.1;have Xr:vp.ownBlock≠some W.heap.size:=fun e=>by have:=(R.out.pl.lt _ e).2;omega
  have vx:=hDq (ai0 b0 W.heap.size vp a r.pl bh hp (by have:=H3.out.pl;rw[ua.out]at this;exact this) ug.out Xr);obtain⟨Hz,cv,hvp⟩:=eo R.out.pl;have CB:=hDq hvp;rw[hvp]at vx q1;clear hvp Xr;simp only[]
  go_wp2_with fail
  refine vx.out.mono ?_;rintro e bY ⟨v8,rfl,N9,wM⟩;obtain⟨a8,c8,ai1⟩:=eo N9;subst ai1;rw[<- CB.out]at wM;have HT:=hDq (H3.out.listed (bRq _ _) wM N9);have hblk:bY.heap[q]?=some (.cells #[.pointer (some ⟨B.F,0,none⟩),vp,uf] 240 (0,0)):=by
   rw[wM.block q (lBq H3.out.blk) (fun e=>?_)]
   ·exact H3.out.blk
   ·obtain⟨_,cur,h2⟩:=ep H3.out.pl e.symm
    exact aA h2 H3.out.blk (by decide) rfl
  have g1:bY.cell? ⟨q,1,none⟩=some vp:=by rw[cR _ _ _ _ _ _ hblk];rfl
  have g2:bY.frozen? ⟨q,1,none⟩=false:=by simp[World.frozen?,hblk]
  clear N9 wM hblk vx q1;go_wp2;go_end0;refine⟨rfl,X2,.slice a8 (af.others a r.pl).length c8,uf,?_,gT.out.trans HT.out.2⟩;have nc:=HT.out.1;rw[ua.out]at nc;rw[HRR.out];exact nc
theorem ai2 (a:Ask) (W:World) (R:Hid (bI w b0 W B X wd h seed S q vp vr r)) (hs:Hid (cP w ad)) (hn:r.rp.length<=100000) (hp:r.pl.length<=100000) :
  Calls Tryz.prog 141 #[.pointer (some ⟨q,0,none⟩),cr a] W fun e w'=>e=.returned (.tuple #[])∧Ct w b0 W w' B X wd h seed S q (af.og r a):=by
 have HB1:Hid (Below W.heap.size W (W.alloc (.cells (bw a) 95))):=(bRq _ _).alloc (lRq _) _;by_cases hk:a.k=111
 ·have hk':(a.k==111)=true:=by simpa using hk
  have HP:=hDq (ai3 a _ (R.out.later HB1.out) hs hn hp);rw[show af.og r a=af.wN r a by unfold af.og;rw[if_pos hk]];clear hk;unfold cr bw at *;go_enter Tryz.func141,Tryz.ntmps141
  go_wp2_with fail
  refine HP.out.mono ?_;rintro e w2 ⟨rfl,X2,zf,zg,h1,h2⟩;have H1:=hDq h1;have H2:=hDq ((bS.below HB1.out b0 B X).trans h2);clear h1 h2;simp only[];go_wp2
  first | go_end0 | refine bodyPost_ret (v:=.tuple #[]) (by simp[results,Tryz.results141]) rfl ?_
  exact⟨rfl,X2,zf,zg,H1.out,H2.out⟩
 ·have hk':(a.k==111)=false:=by simpa using hk
  have HP:=hDq (aiX a _ (R.out.later HB1.out) hs hn hp);rw[show af.og r a=af.wI r a by unfold af.og;rw[if_neg hk]];clear hk;unfold cr bw at *;go_enter Tryz.func141,Tryz.ntmps141
  go_wp2_with fail
  refine HP.out.mono ?_;rintro e w2 ⟨rfl,X2,zf,zg,h1,h2⟩;have H1:=hDq h1;have H2:=hDq ((bS.below HB1.out b0 B X).trans h2);clear h1 h2;simp only[];go_wp2
  first | go_end0 | refine bodyPost_ret (v:=.tuple #[]) (by simp[results,Tryz.results141]) rfl ?_
  exact⟨rfl,X2,zf,zg,H1.out,H2.out⟩
end
end Go.Proofs.YtjolccidheflpaaGreatDoor
namespace Go.Proofs.YtjolccidheflpaaGreatDoor
set_option maxHeartbeats 8000000
open Go.RowKit Go.Maps
set_option maxRecDepth 100000
def iX (w:World) (b n:Nat) (f:Int->Int):Prop:=∃ D:DataW Value,w.ownsMap Tryz.prog 3 wA b n D∧∀ p,D.atKey (.int .i64 p) (.held (.int .i64 0))=.held (.int .i64 (f p))
theorem ajN (w:World):(zeroValue 3).run Tryz.prog w=.ok (.int .i64 0) w:=by kernel_rfl
section
variable {w w':World} {b n:Nat} {f:Int->Int}
theorem iX.block (h:iX w b n f):∃ es clock,w.heap[b]?=some (.map es clock):=by
 obtain⟨D,⟨es,clock,hb,_⟩,_⟩:=h;exact⟨es,clock,hb⟩
theorem iX.turned {T:Nat->Prop} (h:iX w b n f) (ht:aF w w' T) (hb:¬ T b):iX w' b n f:=by
 obtain⟨D,⟨es,clock,h3,rest⟩,h2⟩:=h;exact⟨D,⟨es,clock,by rw[ht.block b (lBq h3) hb];exact h3,rest⟩,h2⟩
theorem iX.later (h:iX w b n f) (hb:Below w.heap.size w w'):iX w' b n f:=by
 obtain⟨D,h1,h2⟩:=h;exact⟨D,h1.kept (row:=none) ⟨hb.os,hb.tape,hb.output,hb.size,fun i hi _=>hb.block i hi⟩ (by simp),h2⟩
theorem iX.look (h:iX w b n f) {p:Int} (h1:-9223372036854775808<=p) (h2:p<=9223372036854775807) :
  (Instr.lookup 292 (.map (some b)) (.int .i64 p) false).run Tryz.prog w=.ok (.int .i64 (f p)) w:=by
 obtain⟨D,h3,h4⟩:=h;obtain⟨v,ps,hrun,hv⟩:=h3.lookup B6 Tryz.underlying292 (ajN w) (zd:=.held (.int .i64 0)) (zp:=[]) rfl (G4 h1 h2);rw[h4]at hv;have:v=.int .i64 (f p):=(by simpa [wA] using hv:_∧ps=[]).1;rw[hrun,this]
theorem iX.store (h:iX w b n f) {p x:Int} (h1:-9223372036854775808<=p) (h2:p<=9223372036854775807) (hn:n<maxLen) :
  ∃ w4,(Instr.mapUpdate 292 (.map (some b)) (.int .i64 p) (.int .i64 x)).run Tryz.prog w=.ok () w4∧iX w4 b (n+1) (fun q=>if q=p then x else f q)∧w.grownBy w4 (some b):=by
 obtain⟨D,h3,h4⟩:=h;obtain⟨w4,hrun,NL,hg4⟩:=h3.update B6 Tryz.underlying292 hn (G4 h1 h2) (val:=.int .i64 x) (d:=.held (.int .i64 x)) (ps:=[]) rfl;have hD:IsMap D:=by obtain⟨es,clock,_,_,_,e⟩:=h3;exact⟨_,e⟩
 refine⟨w4,hrun,⟨_,NL,fun q=>?_⟩,hg4⟩;by_cases hq:q=p
 ·subst hq
  rw[atKey_put_same hD (by trivial)];simp
 ·rw[atKey_put_other (fun e=>hq (by simpa using e)),h4];simp[hq]
end
theorem ajO (base:Nat) (v:Value) (l:List Cv.ag) (w:World) (hrow:Hid (w.ownsRow base 197 5 v l.length (flat l))) (hl:l.length<=60) (hok:Hid (∀ x∈l,Cv.ok x=true)) :
  Calls Tryz.prog 190 #[v] w fun e w'=>e=.returned (.map (some w.heap.size))∧iX w' w.heap.size l.length (af.uk l l.length)∧Below w.heap.size w w':=by
 obtain⟨m,hm⟩:∃ m,l.length=m:=⟨_,rfl⟩;rw[hm]at hrow hl ⊢;have HM:=hDq hm;obtain⟨a0,c0,hv⟩:=eo hrow.out;subst hv;clear hm;have bD:Hid (Below w.heap.size w (w.alloc (.map #[] 0))):=(bRq _ _).alloc (lRq _) _;have CO:Hid (iX (w.alloc (.map #[] 0)) w.heap.size 0 (fun _=>0)):=⟨_,World.ownsMap_made w _ _ _,fun p=>rfl⟩;have aW:(Instr.makeMap 292 none).run Tryz.prog w=.ok (.map (some w.heap.size)) (w.alloc (.map #[] 0)):=by kernel_rfl
 go_enter Tryz.func190,Tryz.ntmps190
 go_wp2_with fail
 go_loopw [9] (fun kv wr=>∃ k:Nat,k<=m∧kv=.int .i64 k∧iX wr w.heap.size k (af.uk l k)∧Below w.heap.size w wr) (fun kv _=>m-(intOf kv).toNat)
 case atStart=>exact⟨0,by omega,rfl,CO.out,bD.out⟩
 case round =>
  obtain⟨k,hk,rfl,ho,hb⟩:=hrel;have HO:=hDq ho;have HB:=hDq hb;clear ho hb;by_cases hlt:k<m
  ·have aK:(k:Int)<m:=by omega
   have hkl:k<l.length:=by rw[HM.out];exact hlt
   have hrw:=bR hrow.out HB.out;obtain⟨g,hg⟩:∃ g,a0=some ⟨g,0,none⟩:=by
    rcases hrw.2 with ⟨e1,_⟩ | ⟨g,cap,cur,e1,_⟩
    ·cases e1;omega
    ·simp only[Value.slice.injEq]at e1;exact⟨g,e1.1⟩
   subst hg;obtain⟨x0,x1,x2,x3,x4⟩:=xX hrw k hkl;simp only[Nat.zero_add]at x0 x1 x2 x3 x4;have rJ:g<wr.heap.size:=bCq _ _ x0;have hx:=hok.out _ (Cv.nA hkl);simp only[Cv.ok,ah.aC,Bool.and_eq_true,decide_eq_true_eq]at hx;have HB1:Hid (Below wr.heap.size wr (wr.alloc (.cells #[.int .i64 (Cv.nth l k).id,.int .i64 (Cv.nth l k).ak,.int .i64 (Cv.nth l k).sd,.int .i64 (Cv.nth l k).pr,.int .i64 (Cv.nth l k).q] 197))):=(bRq _ _).alloc (lRq _) _;obtain⟨w4,hrun,GY,hg4⟩:=(HO.out.later HB1.out).store (p:=(Cv.nth l k).id) (x:=(Cv.nth l k).ak) (by omega) (by omega) (by unfold maxLen;omega);have ajP:Hid (iX w4 w.heap.size (k+1) (af.uk l (k+1))):=GY;have bg:Hid (Below w.heap.size w w4):=(HB.out.trans (HB1.out.mono HB.out.size)).grown hg4 (lTq HB.out.size HB1.out.size) (fun j hj=>by have:=Option.some.inj hj;omega);generalize Cv.nth l k=x at *;clear GY hg4 hrw hx HB1;go_wp2;exact⟨⟨k+1,by omega,by go_num,ajP.out,bg.out⟩,by simp[intOf];omega⟩
  ·have aK:¬ (k:Int)<m:=by omega
   obtain rfl:k=m:=by omega
   go_wp2;go_ret;exact⟨rfl,HO.out,HB.out⟩
end Go.Proofs.YtjolccidheflpaaGreatDoor
namespace Go.Proofs.YtjolccidheflpaaGreatDoor
set_option maxHeartbeats 8000000
open Go.RowKit
set_option maxRecDepth 100000
namespace af
theorem OG {l:List Cv.ag} (hl:Cv.dM l) (ref:Int):Cv.eN l ref 1000 (CH l ref).1 (CH l ref).2:=by
 obtain⟨p,v,h⟩:=TP hl ref 1000;have hex:∃ pv:Int×Int,Cv.eN l ref 1000 pv.1 pv.2:=⟨(p,v),h⟩;unfold CH;rw[dif_pos hex];exact Classical.choose_spec hex
theorem X7 {wd h:Int} {r:cJ} (H:d6 r.L r.pf r.n wd h) {i:Nat} (hi:i<3) (s:Int):(iW wd r i s).length<=240∧∀ f∈iW wd r i s,1<=f.2∧∃ x∈r.L i,x.id=f.1:=by
 have hw:Cv.eN (r.L i) (r.n (i*2)) 1000 (iV r i) (pO r i):=OG (H.ok.aB i hi).oks _;unfold iW Fl.nS;split
 ·rename_i hc
  have hf:=Fs.Ls (A6 (H.ok.aB i hi)) hw hc.2;refine⟨?_,Fs.UF hf s⟩
  have:=Ra.TQ s hf
  unfold Ra.fills;rw[lAq];omega
 ·exact⟨by simp,fun f hf=>by cases hf⟩
end af
section
variable {w W W':World} {ad:Nat->Addr} {b0 q:Nat} {B:cz} {X X' X2:cm} {wd h seed:Int} {S:af.St} {vp vr:Value} {r:af.cJ}
theorem bI.map {b n:Nat} {f:Int->Int} (R:bI w b0 W B X wd h seed S q vp vr r) (ht:aF W W' (fun k=>k=q∨vr.ownBlock=some k)) (ho:iX W b n f):iX W' b n f:=by
 obtain⟨es,clock,hb⟩:=ho.block;refine ho.turned ht (fun e=>?_);rcases e with e | e
 ·rw[e,R.blk]at hb;cases hb
 ·obtain⟨_,cur,h2⟩:=ep R.rp e
  rw[h2]at hb;cases hb
theorem bI.akZ {v:Value} {F:List (Int×Int)} (R:bI w b0 W B X wd h seed S q vp vr r) (ht:aF W W' (fun k=>k=q∨vr.ownBlock=some k)) (hf:eZ W v F):eZ W' v F :=
 hf.keep fun g cur hg=>by
  rw[R.block ht hg (by decide) (by decide)];exact hg.symm
theorem ak0 (L:Nat->List Cv.ag) (i:Nat) (a:Ask):(af.oh L i a).length<=1:=by
 unfold af.oh;split <;> simp
theorem Oz (L:Nat->List Cv.ag) (i:Nat):∀ l:List Ask,(l.flatMap (af.oh L i)).length<=l.length
 | []=>by simp
 | a::l=>by
  have:=Oz L i l
  have:=ak0 L i a
  simp only[List.flatMap_cons,List.length_append,List.length_cons];omega
theorem akn (i:Nat) (hi:i<3) (s:Int) (YF:Ra.IsU s) (W:World) (R:Hid (bI w b0 W B X wd h seed S q vp vr r)) (hs:Hid (cP w ad)) (hn:r.rp.length<=50000) (hp:r.pl.length<=1000) :
  Calls Tryz.prog 142 #[.pointer (some ⟨q,0,none⟩),.int .i64 i,.int .u32 s] W fun e w'=>e=.returned (.tuple #[])∧Ct w b0 W w' B X wd h seed S q (af.uo wd h r i s):=by
 have jz:Cv.eN (r.L i) (r.n (i*2)) 1000 (af.iV r i) (af.pO r i):=af.OG (R.out.all.ok.aB i hi).oks _;have O6:=hDq (af.X7 R.out.all hi s);have zq:Hid (∀ W',Below W.heap.size W W'->Calls Tryz.prog 108 #[.pointer (some ⟨B.F,0,none⟩),.int .i64 i] W' fun e w'=>e=.returned (.pointer (some ⟨B.b i,0,none⟩))∧w'=W'):=fun W' hb=>Md i hi (R.out.later hb).fl;have nz:Hid (∀ W',Below W.heap.size W W'->Calls Tryz.prog 109 #[.pointer (some ⟨B.b i,0,none⟩)] W' fun e w'=>∃ v2,e=.returned v2∧w'.ownsRow W'.heap.size 197 5 v2 (r.L i).length (flat (r.L i))∧Below W'.heap.size W' w'):=fun W' hb=>xG (B.b i) w.heap.size (X.v i) (r.L i) W' ((R.out.later hb).fl.aB i hi) (R.out.all.ok.aB i hi).len;have uG:Hid (∀ W',Below W.heap.size W W'->Calls Tryz.prog 191 #[.pointer (some ⟨B.F,0,none⟩),.int .i64 i,.int .u32 s] W' fun e w'=>∃ h_ X',e=.returned (.tuple #[A5 (af.iV r i) (af.pO r i) (Fl.nQ r.n i wd (af.iV r i) (af.pO r i)) h_,.nilIface])∧bI w b0 w' B X' wd h seed S q vp vr { r with L:=Fl.nP r.L i (af.iW wd r i s),pf:=Fs.gN r.pf i (af.iV r i) (r.L i) (af.iW wd r i s),n:=Fl.runN r.n i wd h (af.iV r i) (af.pO r i) }∧bS W' w' b0 B X X'∧aF W' w' (fun k=>m_ B X k)∧eZ w' h_ (af.iW wd r i s)):=fun W' hb=>by
  refine(aeG i hi s _ _ YF (R.out.later hb).fl hs.out.Cu (R.out.later hb).all jz).mono ?_;rintro e w' ⟨h_,v',rfl,h1,h2,h3,h4⟩;obtain⟨k1,k2,k3⟩:=(R.out.later hb).floor h1 h2 h4;exact⟨h_,_,rfl,k1,k2,k3,h3⟩
 have HRR:Hid (af.uo wd h r i s = { r with L:=Fl.nP r.L i (af.iW wd r i s),pf:=Fs.gN r.pf i (af.iV r i) (r.L i) (af.iW wd r i s),n:=Fl.runN r.n i wd h (af.iV r i) (af.pO r i),rp:=r.rp++((af.iW wd r i s).map (af.um (r.L i) (af.iV r i))++r.pl.flatMap (af.oh (Fl.nP r.L i (af.iW wd r i s)) i)) }):=rfl;have s5:=hDq (R.out.all.ok.aB i hi).len;have YG:=hDq (R.out.all.ok.aB i hi).oks;generalize af.uo wd h r i s=rr at *;generalize af.iW wd r i s=aP at *;generalize af.iV r i=p at *;generalize af.pO r i=vol at *;generalize Fl.nQ r.n i wd p vol=op at *;generalize Fl.runN r.n i wd h p vol=nn at *;generalize Fs.gN r.pf i p (r.L i) aP=nR at *;generalize Fl.nP r.L i aP=L' at *;clear jz YF;have c0:=R.out.cells.1;have ho:∀ k,m_ B X k->k<W.heap.size:=fun k hk=>N8 R.out.bQ hk;go_enter Tryz.func142,Tryz.ntmps142
 go_wp2_with fail
 refine(zq.out _ (bRq _ _)).mono ?_;rintro e w1 ⟨rfl,dS⟩;subst w1;simp only[]
 go_wp2_with fail
 refine(nz.out _ (bRq _ _)).mono ?_;rintro e w2 ⟨v2,rfl,hrow2,hb2⟩;have HB2:=hDq hb2;have HOW:=hDq (ajO W.heap.size v2 (r.L i) w2 hrow2 s5.out YG.out);clear hrow2 hb2;simp only[]
 go_wp2_with fail
 refine HOW.out.mono ?_;rintro e w3 ⟨rfl,C9,hb3⟩;have au:=hDq (HB2.out.trans (hb3.mono HB2.out.size));have YH:=hDq C9;have hM:W.heap.size<=w2.heap.size:=HB2.out.size;generalize w2.heap.size=M at *;clear C9 hb3 HOW HB2;have c3:=(R.out.later au.out).cells.1;simp only[]
 go_wp2_with fail
 refine(uG.out _ au.out).mono ?_;rintro e w4 ⟨h_,qz,rfl,h1,h2,h3,h4⟩;have bF:=hDq h1;have cG:=hDq ((bS.below au.out b0 B X).trans h2);have YI:=hDq h4;have YJ:=hDq (YH.out.turned h3 (fun e=>by have:=ho _ e;omega));clear h1 h2 h3 zq nz uG YH;obtain⟨iP,ji,iy⟩:=h4.val;have aoX:=hDq iy;subst iy;obtain⟨m,hm⟩:∃ m,aP.length=m:=⟨_,rfl⟩;have HM:=hDq hm;have aoY:m<=240:=by rw[<- hm];exact O6.out.1
 rw[hm];clear h4;unfold A5;have bE:Hid (Below w4.heap.size w4 (w4.alloc (.cells #[.int .i64 p,.int .i64 vol,.bool op,.slice iP m ji] 296))):=(bRq _ _).alloc (lRq _) _;have HD5:=hDq (hNq w4 (.cells #[.int .i64 p,.int .i64 vol,.bool op,.slice iP m ji] 296));simp only[]
 go_wp2_with fail
 have jb:=hDq (bF.out.later bE.out);have jg:=hDq (cG.out.trans (bS.below bE.out b0 B qz));have YK:=hDq (YI.out.later bE.out);have ak1:=hDq (YJ.out.later bE.out);rw[hm]at YK;generalize w4.alloc (.cells #[.int .i64 p,.int .i64 vol,.bool op,.slice iP m ji] 296)=aQ at *;generalize w4.heap.size=D at *;clear bF cG YI YJ bE hm
 go_loopw [38] (fun kv wr=>∃ k rT,k<=m∧kv=.int .i64 k∧bI w b0 wr B qz wd h seed S q vp rT { r with L:=L',pf:=nR,n:=nn,rp:=r.rp++(aP.take k).map (af.um (r.L i) p) }∧bS W wr b0 B X qz∧eZ wr (.slice iP m ji) aP∧iX wr M (r.L i).length (af.uk (r.L i) (r.L i).length)∧wr.heap[D]?=some (.cells #[.int .i64 p,.int .i64 vol,.bool op,.slice iP m ji] 296 (0,0))) (fun kv _=>m-(intOf kv).toNat)
 case atStart=>exact⟨0,vr,by omega,rfl,by simpa using jb.out,jg.out,YK.out,ak1.out,HD5.out⟩
 case round =>
  obtain⟨k,o6,hk,rfl,hr,hfr,C_,C9,hd⟩:=hrel;have HR:=hDq hr;have HF:=hDq hfr;have tr:=hDq C_;have HO:=hDq C9;have HD:=hDq hd;clear hr hfr C9;by_cases hlt:k<m
  ·have aK:(k:Int)<m:=by omega
   have hkl:k<aP.length:=by rw[HM.out];exact hlt
   obtain⟨g,hg⟩:∃ g,iP=some ⟨g,0,none⟩:=by
    rcases C_ with ⟨e1,_⟩ | ⟨g,cap,cur,e1,_⟩
    ·rw[e1]at hkl;cases hkl
    ·simp only[Value.slice.injEq]at e1;exact⟨g,e1.1⟩
   subst hg;obtain⟨y0,y1⟩:wr.cell? ⟨g,k*2,none⟩=some (.int .i64 (ei aP k).1)∧wr.cell? ⟨g,k*2+1,none⟩=some (.int .i64 (ei aP k).2):=by
    rcases C_ with ⟨e1,_⟩ | ⟨g',cap,cur,e1,h2,_⟩
    ·rw[e1]at hkl;cases hkl
    ·simp only[Value.slice.injEq,Option.some.injEq,Addr.mk.injEq]at e1
     obtain⟨⟨rfl,_⟩,_⟩:=e1;exact h2 k hkl
   have rJ:g<wr.heap.size:=bCq _ _ y0;have hDl:D<wr.heap.size:=lBq hd;have z0:wr.cell? ⟨D,0,none⟩=some (.int .i64 p):=by rw[cR _ _ _ _ _ _ hd];rfl
   have xV:ei aP k=aP[k]:=by unfold ei;rw[gE,List.getElem?_eq_getElem hkl];rfl
   have hid:1<=(ei aP k).1∧(ei aP k).1<=1073741824:=by
    obtain⟨_,x,hx,Ha⟩:=O6.out.2 (ei aP k) (by rw[xV];exact List.getElem_mem hkl)
    have:=YG.out x hx
    simp only[Cv.ok,ah.aC,Bool.and_eq_true,decide_eq_true_eq]at this;omega
   have HN:Hid ((aP.take (k+1)).map (af.um (r.L i) p)=(aP.take k).map (af.um (r.L i) p)++[af.tell af.HY ⟨(ei aP k).1,af.uk (r.L i) (r.L i).length (ei aP k).1,0,p,(ei aP k).2⟩]):=by
    show _=_;rw[List.take_succ_eq_append_getElem hkl,List.map_append,<- xV];rfl
   generalize ei aP k=f at *;obtain⟨f1,f2⟩:=f;simp only at y0 y1 hid HN;have aS:Hid (Below wr.heap.size wr (wr.alloc (.cells #[.int .i64 f1,.int .i64 f2] 300))):=(bRq _ _).alloc (lRq _) _;have ak2:=(HO.out.later aS.out).look (p:=f1) (by omega) (by omega);generalize af.uk (r.L i) (r.L i).length f1=ak at *;have HT:=hDq (fun W' (hb:Below wr.heap.size wr W')=>Hy af.HY ⟨f1,ak,0,p,f2⟩ W' (HR.out.later hb) (by simp only[List.length_append,List.length_map,List.length_take];omega));unfold af.HY bJ at HT;clear C_ hd xV hid
   go_wp2_with fail
   refine(HT.out _ aS.out).mono ?_;rintro e bh ⟨rfl,uf,h3,h4,h5⟩;have H3:=hDq h3;have gT:=hDq (HF.out.trans ((bS.below aS.out b0 B _).trans h4));have H5:=hDq ((HR.out.later aS.out).akZ h5 (tr.out.later aS.out));have r5:=hDq ((HR.out.later aS.out).map h5 (HO.out.later aS.out));have C8:=hDq ((HR.out.later aS.out).block h5 (iT aS.out HD.out) (by decide) (by decide));clear h3 h4 h5 HT aS ak2;simp only[];go_wp2;refine⟨⟨k+1,uf,hlt,by go_num,?_,gT.out,H5.out,r5.out,C8.out⟩,by simp[intOf];omega⟩;rw[HN.out,<- aAq];exact H3.out
  ·have aK:¬ (k:Int)<m:=by omega
   obtain rfl:k=m:=by omega
   have Da:=HR.out;rw[<- HM.out,List.take_length]at Da;have ym:=hDq Da;obtain⟨fQ,hwo⟩:∃ fQ,fQ=wr:=⟨_,rfl⟩;subst hwo;have q1:=Da.cells.2.1;obtain⟨ap,tB,hvp⟩:=eo Da.pl;have CB:Hid (vp=.slice ap r.pl.length tB):=hvp;rw[CB.out]at q1;obtain⟨mp,hmp⟩:∃ mp,r.pl.length=mp:=⟨_,rfl⟩;rw[hmp]at q1 CB hp;have O7:=hDq hmp;clear hmp hvp Da C_ hd;have LF:(aP.map (af.um (r.L i) p)).length<=240:=by rw[List.length_map];exact O6.out.1
   go_wp2_with fail
   go_loopw [61] (fun kv wr=>∃ k rT,k<=mp∧kv=.int .i64 k∧bI w b0 wr B qz wd h seed S q vp rT { r with L:=L',pf:=nR,n:=nn,rp:=(r.rp++aP.map (af.um (r.L i) p))++(r.pl.take k).flatMap (af.oh L' i) }∧bS W wr b0 B X qz) (fun kv _=>mp-(intOf kv).toNat)
   case atStart=>exact⟨0,o6,by omega,rfl,by simpa using ym.out,HF.out⟩
   case round =>
    obtain⟨j,vj,hj,rfl,hr,hfr⟩:=hrel;have uz:=hDq hr;have O8:=hDq hfr;clear hfr;by_cases nh:j<mp
    ·have a_:(j:Int)<mp:=by omega
     have uh:j<r.pl.length:=by rw[O7.out];exact nh
     have hrow:=hr.pl;rw[CB.out]at hrow;simp only[O7.out]at hrow;obtain⟨g,hg⟩:∃ g,ap=some ⟨g,0,none⟩:=by
      rcases hrow.2 with ⟨e1,_⟩ | ⟨g,cap,cur,e1,_⟩
      ·cases e1;omega
      ·simp only[Value.slice.injEq]at e1;exact⟨g,e1.1⟩
     subst hg;obtain⟨d0,d1,d2,d3,d4,d5,jA,pG⟩:=rQ hrow uh nh;have rJ:g<wr.heap.size:=bCq _ _ d0;have HN:Hid ((r.pl.take (j+1)).flatMap (af.oh L' i)=(r.pl.take j).flatMap (af.oh L' i)++af.oh L' i (cg r.pl j)):=by
      show _=_;rw[af.HV uh,List.flatMap_append];simp
     have hlen:=Oz L' i (r.pl.take j);rw[lKq]at hlen;generalize cg r.pl j=a at *;have aS:Hid (Below wr.heap.size wr (wr.alloc (.cells #[.int .u8 a.k,.int .i64 a.c,.int .i64 a.sq,.int .i64 a.it,.int .i64 a.sd,.int .i64 a.pr,.int .i64 a.q,.int .i64 a.id] 95))):=(bRq _ _).alloc (lRq _) _;have hZ:=hDq (hNq wr (.cells #[.int .u8 a.k,.int .i64 a.c,.int .i64 a.sq,.int .i64 a.it,.int .i64 a.sd,.int .i64 a.pr,.int .i64 a.q,.int .i64 a.id] 95));have HG:=hDq (DU (B.b i) w.heap.size (qz.v i) a.id (L' i) _ ((uz.out.later aS.out).fl.aB i hi) (uz.out.all.ok.aB i hi).len);have jl:Hid (af.oh L' i a=if Cv.has (L' i) a.id=true∧a.it=i then [af.tell af.CG (Bk.jv (L' i) a.id)] else []):=rfl;generalize af.oh L' i a=rs at *;generalize Bk.jv (L' i) a.id=x at *;generalize Cv.has (L' i) a.id=hb at *;unfold bJ at HG;clear hr hrow
     go_wp2_with fail
     refine HG.out.mono ?_;rintro e bh ⟨rfl,jc⟩;have k0:=hDq (aS.out.trans (jc.mono aS.out.size));have ug:=hDq (iT jc hZ.out);have aoZ:wr.heap.size<bh.heap.size:=lBq ug.out;clear jc HG aS hZ d0 d1 d2 d3 d4 d5 jA pG;have e3:bh.cell? ⟨wr.heap.size,3,none⟩=some (.int .i64 a.it):=by rw[cR _ _ _ _ _ _ ug.out];rfl
     have jB:Hid (Below wr.heap.size wr (bh.alloc (.cells #[.int .i64 x.id,.int .i64 x.ak,.int .i64 x.sd,.int .i64 x.pr,.int .i64 x.q] 197))):=k0.out.alloc k0.out.size _;by_cases hc:hb=true∧a.it=i
     ·obtain⟨rfl,hit⟩:=hc
      have ak3:(a.it==(i:Int))=true:=by simpa using hit
      have O9:rs=[af.tell af.CG x]:=by rw[jl.out,if_pos ⟨rfl,hit⟩]
      rw[O9]at HN;have HT:=hDq (Hy af.CG x _ (uz.out.later jB.out) (by simp only[List.length_append];omega));unfold af.CG bJ at HT;clear hit;simp only[]
      go_wp2_with fail
      refine HT.out.mono ?_;rintro e g_ ⟨rfl,ak4,h3,h4,_⟩;have H3:=hDq h3;have gT:=hDq (O8.out.trans ((bS.below jB.out b0 B _).trans h4));clear h3 h4 HT;simp only[];go_wp2;refine⟨⟨j+1,ak4,nh,by go_num,?_,gT.out⟩,by simp[intOf];omega⟩;rw[HN.out,<- aAq];exact H3.out
     ·have O9:rs=[]:=by rw[jl.out,if_neg hc]
      rw[O9,aNq]at HN;have hcc:hb=false∨hb=true∧(a.it==(i:Int))=false:=by
       cases hb with
       | false=>exact .inl rfl
       | true=>exact .inr ⟨rfl,by simpa using fun e=>hc ⟨rfl,e⟩⟩
      clear hc;rcases hcc with rfl | ⟨rfl,ak3⟩
      all_goals
       simp only[];go_wp2;refine⟨⟨j+1,vj,nh,by go_num,?_,O8.out.trans (bS.below jB.out b0 B _)⟩,by simp[intOf];omega⟩;rw[HN.out];exact uz.out.later jB.out
    ·have a_:¬ (j:Int)<mp:=by omega
     obtain rfl:j=mp:=by omega
     have O_:=uz.out;rw[<- O7.out,List.take_length,aAq]at O_;have J5:=hDq O_;clear O_ hr;go_wp2;go_end0;exact⟨rfl,qz,vp,vj,by rw[HRR.out];exact J5.out,O8.out⟩
end
end Go.Proofs.YtjolccidheflpaaGreatDoor
namespace Go.Proofs.YtjolccidheflpaaGreatDoor
set_option maxHeartbeats 8000000
set_option maxRecDepth 100000
namespace af
def Same (f g:Nat->Int):Prop:=Pu.dP g 6=Pu.dP f 6∧∀ j,j<3->Pu.dQ g j 6=Pu.dQ f j 6
theorem Same.refl (f:Nat->Int):Same f f:=⟨rfl,fun _ _=>rfl⟩
theorem Same.trans {f g k:Nat->Int} (h:Same f g) (h2:Same g k):Same f k:=⟨h2.1.trans h.1,fun j hj=>(h2.2 j hj).trans (h.2 j hj)⟩
theorem Yo (i:Nat):∀ (xs:List Cv.ag) (f:Nat->Int),Same f (Fl.Ec i f xs)
 | [],f=>Same.refl f
 | x::xs,f=>by
  have h:=Pu.J' f (i:Int) x 6;exact Same.trans ⟨h.1,h.2⟩ (Yo i xs (Pu.eP f i x))
theorem Yp (c:Int) (L:Nat->List Cv.ag) (f:Nat->Int):∀ i,Same f (Fl.p_ c L f i)
 | 0=>Same.refl f
 | i+1=>(Yp c L f i).trans (Yo i _ _)
theorem akd (r:cJ) (c:Nat):Same r.pf (uj r c).pf:=Yp c r.L r.pf 3
theorem akh (r:cJ) (a:Ask):Same r.pf (og r a).pf:=by
 unfold og wN wI;split
 ·show Same r.pf (Fl.jD r.L r.pf a)
  unfold Fl.jD;split
  ·have h:=Pu.R1 r.pf a.it (Fl.fB a) 6
   exact⟨h.1,h.2⟩
  ·exact Same.refl _
 ·show Same r.pf (Fl.jE r.L r.pf a)
  unfold Fl.jE;split
  ·have h:=Pu.J' r.pf a.it (Fl.fy r.L a) 6
   exact⟨h.1,h.2⟩
  ·exact Same.refl _
theorem akm {wd h:Int} {r:cJ} (H:d6 r.L r.pf r.n wd h) {i:Nat} (hi:i<3) (s:Int):Same r.pf (uo wd h r i s).pf:=by
 have hw:Cv.eN (r.L i) (r.n (i*2)) 1000 (iV r i) (pO r i):=OG (H.ok.aB i hi).oks _;show Same r.pf (Fs.gN r.pf i (iV r i) (r.L i) (iW wd r i s));unfold iW Fl.nS;split
 ·rename_i hc
  have hf:=Fs.Ls (A6 (H.ok.aB i hi)) hw hc.2;have hF:=Fs.Tn hf s;have hp:1<=iV r i∧iV r i<=1000:=by
   rcases hw with ⟨_,e2,_⟩ | ⟨_,e2,e3,_⟩
   ·have:=hc.2;omega
   ·exact⟨e2,e3⟩
  have h1:=Fs.ady H.ok hi hp hF;exact⟨h1.1,h1.2⟩
 ·rw[Fs.TM]
  exact Same.refl _
end af
end Go.Proofs.YtjolccidheflpaaGreatDoor
namespace Go.Proofs.YtjolccidheflpaaGreatDoor
set_option maxHeartbeats 8000000
open Go.RowKit
set_option maxRecDepth 100000
theorem On (s:ByteArray):∀ k,(af.lA s k).length=2*k
 | 0=>rfl
 | k+1=>by rw[af.lA,lAq,On s k];rfl
theorem XV (x:Nat) (hx:x<16) (w:World):(Instr.index 9 (.string ⟨#[48,49,50,51,52,53,54,55,56,57,97,98,99,100,101,102]⟩) (.int .u8 x)).run Tryz.prog w=.ok (.int .u8 (af.rU x)) w:=by
 have:x=0∨x=1∨x=2∨x=3∨x=4∨x=5∨x=6∨x=7∨x=8∨x=9∨x=10∨x=11∨x=12∨x=13∨x=14∨x=15:=by omega
 rcases this with rfl | rfl | rfl | rfl | rfl | rfl | rfl | rfl | rfl | rfl | rfl | rfl | rfl | rfl | rfl | rfl <;> exact rfl
theorem ajT:∀ b:Fin 256,bits .and .u8 ((b.val:Nat):Int) 15=((b.val%16:Nat):Int):=by decide +kernel
theorem ajU (base:Nat) (v:Value) (xs:List Int) (s:ByteArray) (w:World) (hr:Hid (Row w base v xs)) (hx:xs.length<=100000) (hs:s.size<=1000) (hb:base<=w.heap.size) :
  Calls Tryz.prog 139 #[v,.string s] w fun e w'=>∃ v',e=.returned v'∧Row w' base v' (xs++af.lA s s.size)∧Below base w w':=by
 obtain⟨a0,c0,hv⟩:=eo hr.out;go_enter Tryz.func139,Tryz.ntmps139
 go_wp2_with fail
 go_loopw [0,8] (fun v kv wr=>∃ k:Nat,k<=s.size∧kv=.int .i64 k∧Row wr base v (xs++af.lA s k)∧Below base w wr) (fun _ kv _=>s.size-(intOf kv).toNat)
 case atStart=>exact⟨0,by omega,rfl,by simpa [af.lA] using hr.out,bRq _ _⟩
 case round =>
  obtain⟨k,hk,rfl,hrow,iE⟩:=hrel;have HR:=hDq hrow;have HB:=hDq iE;clear iE;by_cases hlt:k<s.size
  ·have aK:(k:Int)<s.size:=by omega
   have ajV:=gW s k;have CR:=fW s k hlt;obtain⟨bZ,val,hcl,aW⟩:=nY (fun _=>True);go_wp2;obtain⟨x0,hx0⟩:=aW wr.drew trivial;have hnx:Nonempty bZ:=⟨x0⟩;refine yJ (val:=val) [11,12] [0,1,2,3,4,5,6,7,8,9,10,11,12,13] (by kernel_rfl) (by kernel_rfl) x0 hx0 ?_;rw[hx0];clear hx0;have d1:∀ W,(Instr.index 9 (.string ⟨#[48,49,50,51,52,53,54,55,56,57,97,98,99,100,101,102]⟩) (.int .u8 ((az s k:Int)/16))).run Tryz.prog W=.ok (.int .u8 (af.rU (az s k/16))) W:=fun W=>by
    rw[show ((az s k:Int)/16)=((az s k/16:Nat):Int) by omega];exact XV _ (by omega) W
   have d2:∀ W,(Instr.index 9 (.string ⟨#[48,49,50,51,52,53,54,55,56,57,97,98,99,100,101,102]⟩) (.int .u8 (bits BinOp.and IntKind.u8 (az s k:Int) 15))).run Tryz.prog W=.ok (.int .u8 (af.rU (az s k%16))) W:=fun W=>by
    rw[ajT ⟨az s k,ajV⟩];exact XV _ (by omega) W
   have hl2:(xs++af.lA s k).length<=1000000:=by rw[lAq,On];omega
   have hbw:base<=wr.heap.size:=lTq hb HB.out.size;have hrd:Row wr.drew base u0 (xs++af.lA s k):=bR HR.out iU;obtain⟨v4,w4,hap,hr4,hg4⟩:=CS base wr.drew u0 (xs++af.lA s k) [af.rU (az s k/16),af.rU (az s k%16)] hrd hl2 (by simp) hbw;have bg:Hid (Below base w w4):=below_grown ((HB.out.trans (iU.mono hbw)).alloc hbw _) (World.ownsRow.alloc hrd _) (lTq hbw (by simp)) hg4;have bF:Hid (Row w4 base v4 (xs++af.lA s (k+1))):=by
    show Row w4 base v4 (xs++(af.lA s k++_));rw[<- aAq];exact hr4
   simp only[List.map_cons,List.map_nil,List.length_cons,List.length_nil]at hap;have cO:=hDq hap;have aV:=hDq aW;clear hap hr4 hg4 hrd hrow aW hcl
   iterate 11 (refine n_ rfl rfl (fun K hK=>?_);refine⟨by rfl,?_⟩;unfold aI;go_simp;refine hK _ ?_;clear hK K)
   refine qp rfl rfl (fun K hK=>?_);refine⟨by rfl,?_⟩;unfold aR;go_simp;refine⟨aV.out _ trivial,hK _ _ ?_⟩;clear hK K;refine qp rfl rfl (fun K hK=>?_);refine⟨by rfl,?_⟩;refine Gx _ _ 115 rfl _ _ _ rfl rfl cO.out ?_;refine⟨aV.out _ trivial,hK _ _ ?_⟩;clear hK K;refine n_ rfl rfl (fun K hK=>?_);refine⟨by rfl,?_⟩;unfold aI;go_simp;refine hK _ ?_;clear hK K;refine wm ?_;go_wp2;exact⟨⟨k+1,hlt,by go_num,bF.out,bg.out⟩,by simp[intOf];omega⟩
  ·have aK:¬ (k:Int)<s.size:=by omega
   obtain rfl:k=s.size:=by omega
   go_wp2;go_ret;exact⟨_,rfl,HR.out,HB.out⟩
end Go.Proofs.YtjolccidheflpaaGreatDoor
namespace Go.Proofs.YtjolccidheflpaaGreatDoor
set_option maxHeartbeats 8000000
set_option maxRecDepth 100000
namespace Fs
open Cv Bk Ra Pu Fu
end Fs
namespace Fl
open Cv Bk Ra Pu Fu Fs
end Fl
namespace af
variable {r:cJ} {wd h:Int}
end af
end Go.Proofs.YtjolccidheflpaaGreatDoor
