/- A command's line read, by its contract. -/
import Derived.Test.YtjolccidheflpaaGreatDoorX38
import Derived.Test.YtjolccidheflpaaGreatDoorX39
import Derived.Test.YtjolccidheflpaaGreatDoorX40
import Derived.Test.YtjolccidheflpaaGreatDoorX16
namespace Go.Proofs.YtjolccidheflpaaGreatDoor
open Go.Proofs.Tryz
set_option maxHeartbeats 8000000
set_option maxRecDepth 100000
section
open Go.RowKit
theorem anc{b0:Nat}(W:World)(v:Value)(l:List Int)(x:Int)(hr:W.ownsRow b0 3 1 v l.length (dF l))(hl:l.length<=1000000)(hb:b0<=W.heap.size):
  ∃v' W',(Builtin.append_ #[23,23] 23 #[v,.slice (some (O W.heap.size 0)) 1 1]).run prog (W.alloc (.cells #[Z x] 3))=.ok v' W'/\W'.ownsRow b0 3 1 v' (l++[x]).length (dF (l++[x]))/\(W.alloc (.cells #[Z x] 3)).grownBy W' v.ownBlock:=by
 obtain⟨i0,z0,hi,hz0,hz1,hz2,hz3⟩:=NJ;have hbl:U W (W.alloc (.cells #[Z x] 3)):=aj;obtain⟨v4,w4,hap,hrow,hgr,_,_⟩:=run_append_own_at (P:=prog) (w:=W.alloc (.cells #[Z x] 3)) b0 23 23 3 i0 z0 1 8 underlying23 hi hz0 hz1 hz2 hz3 (by decide) v l.length (dF l) (dh hr hbl) (O W.heap.size 0) 1 1 [Z x] rfl (fun j u hj=>by
  cases j with
  | zero=>cases hj;exact cR _ _ 0 _ 3 _ (hNq W _)
  | succ j=>simp at hj) (fun u hu=>by simp at hu;subst hu;rfl) (by unfold maxLen;omega) (by omega) (lTq hb hbl.size)
 refine⟨v4,w4,hap,?_,hgr⟩;rw[lAq];unfold dF at *;rw[List.map_append];exact hrow
namespace bg
def parts(n:Nat)(s:ByteArray):List ByteArray:=Lib.splitB ⟨#[32]⟩ 0 (min (2+n) (s.size+1)-1) s
def nums(sp:List (Int×Int))(ps:List ByteArray):Nat->Option (List Int)
 | 0=>some []
 | k+1=>match nums sp ps k with
  | none=>none
  | some l=>match gK 7 (ps.getD (1+k) ⟨#[]⟩) with
   | none=>none
   | some n=>if ah.aK n (sp.getD k (0,0)).1 (sp.getD k (0,0)).2=true then some (l++[(n:Int)]) else none
def want(sp:List (Int×Int))(bD:Bool):Nat:=1+sp.length+(if bD=true then 1 else 0)
def rd(sp:List (Int×Int))(bD:Bool)(s:ByteArray):Option (List Int×ByteArray) :=
 if (parts sp.length s).length=want sp bD then (nums sp (parts sp.length s) sp.length).map fun l=>(l,if bD=true then (parts sp.length s).getD (want sp bD-1) ⟨#[]⟩ else ⟨#[]⟩) else none
theorem Py:∀(l:List (Int×Int)) (k:Nat),k<l.length->(Ek l)[k*2]?=some (Z (l.getD k (0,0)).1)/\(Ek l)[k*2+1]?=some (Z (l.getD k (0,0)).2)
 | [],k,h=>absurd h (by simp)
 | x::l,0,_=>⟨rfl,rfl⟩
 | x::l,k+1,h=>by
  have h1:=Py l k (by simpa using h);have e:Ek (x::l)=[Z x.1,Z x.2]++Ek l:=rfl;rw[e,List.getElem?_append_right (by simp;omega),List.getElem?_append_right (by simp;omega)];simpa [show (k+1)*2-2=k*2 by omega,show (k+1)*2+1-2=k*2+1 by omega] using h1
structure p8 (W:World) (c:Array Value) (ps:List ByteArray) (cap:Nat) (l:List Int) (v:Value) (wr:World):Prop where
 bG:U W wr
 bc:wr.heap[W.heap.size]?=some (.cells c 223 (0,0))
 gM:wr.heap[W.heap.size+1]?=some (.cells #[.slice none 0 0,.string ⟨#[]⟩] 280 (0,0))
 bt:wr.heap[W.heap.size+2]?=some (.cells (Lib.cellsOf ps cap) 9 (0,0))
 bs:wr.heap[W.heap.size+3+1]?=some (.cells #[v,.string ⟨#[]⟩] 280 (0,0))
 row:wr.ownsRow (W.heap.size+3) 3 1 v l.length (dF l)
section
variable {W wr w':World} {c:Array Value} {ps:List ByteArray} {cap:Nat} {l:List Int} {v v':Value}
theorem p8.later(h:p8 W c ps cap l v wr)(hb:U wr w'):p8 W c ps cap l v w' :=
 ⟨h.bG.trans (hb.mono h.bG.size),bF hb h.bc,bF hb h.gM,bF hb h.bt,bF hb h.bs,dh h.row hb⟩
theorem p8.key(h:p8 W c ps cap l v wr)(hg:wr.grownBy w' v.ownBlock):w'.heap[W.heap.size+3+1]?=some (.cells #[v,.string ⟨#[]⟩] 280 (0,0)):=by
 rw[hg.block _ (lBq h.bs) (fun e2=>by
  obtain⟨_,c2,b2⟩:=cB h.row e2.symm;exact aN h.bs b2 (by decide) rfl)]
 exact h.bs
theorem p8.push{l':List Int}(h:p8 W c ps cap l v wr)(hg:wr.grownBy w' v.ownBlock)(hr:w'.ownsRow (W.heap.size+3) 3 1 v' l'.length (dF l')):p8 W c ps cap l' v' (w'.setCell ⟨W.heap.size+3+1,0,none⟩ v'):=by
 have key:∀{k:Nat} {cur:Array Value} {e:TypeId},e≠3->wr.heap[k]?=some (.cells cur e (0,0))->w'.heap[k]?=some (.cells cur e (0,0)):=fun {k cur e} he hk=>by
  rw[hg.block k (lBq hk) (fun e2=>by
   obtain⟨_,c2,b2⟩:=cB h.row e2.symm;exact aN hk b2 he rfl)]
  exact hk
 have ht:aL w' (w'.setCell ⟨W.heap.size+3+1,0,none⟩ v') (fun k=>k=W.heap.size+3+1):=aL.setCell _ _ _ _;have Pz:∀{k:Nat} {o:Obj},k≠W.heap.size+3+1->w'.heap[k]?=some o->(w'.setCell ⟨W.heap.size+3+1,0,none⟩ v').heap[k]?=some o:=fun {k o} hk ho=>by
  rw[ht.block k (lt_of_some ho) hk];exact ho
 have hbw:U W w':=h.bG.grown hg h.bG.size (fun k hk=>by have:=(cB h.row hk).1;omega);refine⟨hbw.setCell (p:=⟨W.heap.size+3+1,0,none⟩) (show W.heap.size<=W.heap.size+3+1 by omega) _,Pz (by omega) (key (by decide) h.bc),Pz (by omega) (key (by decide) h.gM),Pz (by omega) (key (by decide) h.bt),?_,?_⟩
 .rw[block_setCell (key (by decide) h.bs)];rfl
 .refine eV hr ht (fun k hk e=>?_)
  obtain⟨_,c2,b2⟩:=cB hr hk;rw[e,key (by decide) h.bs]at b2;simp at b2
end
theorem PD{sp:List (Int×Int)}{ps:List ByteArray}{k:Nat}(h:nums sp ps k=none):∀j,nums sp ps (k+j)=none
 | 0=>h
 | j+1=>by
  have:=PD h j
  show nums sp ps ((k+j)+1)=none;rw[nums,this]
def ane(W w':World)(e:Ending)(r:Option (List Int×ByteArray)):Prop :=
 U W w'/\((r=none/\e=.returned (.tuple #[.agg #[.slice none 0 0,.string ⟨#[]⟩],.bool false]))\/∃l t v,r=some (l,t)/\e=.returned (.tuple #[.agg #[v,.string t],.bool true])/\w'.ownsRow W.heap.size 3 1 v l.length (dF l))
theorem Zq{sp:List (Int×Int)}{s:Value}{W:World}{S:Nat->Prop}(h:d_ S sp s W):∃a,s=.slice a sp.length sp.length/\∀k,k<sp.length->∃b,a=some (O b 0)/\W.cell? ⟨b,k*2,none⟩=some (Z (sp.getD k (0,0)).1)/\W.cell? ⟨b,k*2+1,none⟩=some (Z (sp.getD k (0,0)).2):=by
 rcases h with ⟨rfl,rfl⟩ | ⟨b,_,rfl,hb⟩
 .exact⟨none,rfl,fun k hk=>absurd hk (by simp)⟩
 .refine⟨_,rfl,fun k hk=>⟨b,rfl,?_,?_⟩⟩
  .rw[cR _ _ _ _ _ _ hb];simpa using(Py sp k hk).1
  .rw[cR _ _ _ _ _ _ hb];simpa using(Py sp k hk).2
theorem Zy{ps:List ByteArray}{N j:Nat}(h:j<ps.length):(Lib.cellsOf ps N)[j]?=some (.string (ps.getD j ⟨#[]⟩)):=by unfold Lib.cellsOf;rw[List.getElem?_toArray,List.getElem?_append_left (by simpa using h),List.getElem?_map,List.getElem?_eq_getElem h,gE,List.getElem?_eq_getElem h];rfl
theorem IA{w W:World}{N R:Nat}{T:TypeId}{x y:Value}(hb:Below N W w)(hN:N<=R)(h:w.heap[R]?=some (.cells #[x,y] T (0,0)))(u v:Value):
  ((w.setCell (O R 0) u).setCell (O R 1) v).heap[R]?=some (.cells #[u,v] T (0,0))/\Below N W ((w.setCell (O R 0) u).setCell (O R 1) v) :=
 ⟨by rw[block_setCell (block_setCell h 0 u) 1 v];rfl,(hb.setCell (p:=(O R 0)) hN _).setCell (p:=(O R 1)) hN _⟩
theorem Zz{wr W:World}{v:Value}{l:List Int}(bG:U W wr)(gM:wr.heap[W.heap.size+1]?=some (.cells #[.slice none 0 0,.string ⟨#[]⟩] 280 (0,0)))(row:wr.ownsRow (W.heap.size+3) 3 1 v l.length (dF l))(t:ByteArray):
  ((wr.setCell ⟨W.heap.size+1,0,none⟩ v).setCell ⟨W.heap.size+1,1,none⟩ (.string t)).heap[W.heap.size+1]?=some (.cells #[v,.string t] 280 (0,0))/\U W ((wr.setCell ⟨W.heap.size+1,0,none⟩ v).setCell ⟨W.heap.size+1,1,none⟩ (.string t))/\((wr.setCell ⟨W.heap.size+1,0,none⟩ v).setCell ⟨W.heap.size+1,1,none⟩ (.string t)).ownsRow W.heap.size 3 1 v l.length (dF l):=by
 obtain⟨h1,h2⟩:=IA bG (Nat.le_succ W.heap.size) gM v (.string t);refine⟨h1,h2,eV (ij row (by omega)) ((aL.setCell _ _ _ _).trans (aL.setCell _ _ _ _) (fun _ h=>.inl h)) (fun k hk e=>?_)⟩;obtain⟨_,c2,b2⟩:=cB row hk;have e':k=W.heap.size+1:=e;rw[e',gM]at b2;simp at b2
theorem p8.text{W wr:World}{c:Array Value}{ps:List ByteArray}{cap:Nat}{l:List Int}{v:Value}(h:p8 W c ps cap l v wr)(t:ByteArray):
  U W (wr.setCell ⟨W.heap.size+3+1,1,none⟩ (.string t))/\(wr.setCell ⟨W.heap.size+3+1,1,none⟩ (.string t)).heap[W.heap.size+1]?=some (.cells #[.slice none 0 0,.string ⟨#[]⟩] 280 (0,0))/\(wr.setCell ⟨W.heap.size+3+1,1,none⟩ (.string t)).ownsRow (W.heap.size+3) 3 1 v l.length (dF l):=by
 have ht:aL wr (wr.setCell ⟨W.heap.size+3+1,1,none⟩ (.string t)) (fun k=>k=W.heap.size+3+1):=aL.setCell _ _ _ _;refine⟨h.bG.setCell (p:=⟨W.heap.size+3+1,1,none⟩) (show W.heap.size<=W.heap.size+3+1 by omega) _,by rw[ht.block _ (lBq h.gM) (by omega)];exact h.gM,eV h.row ht (fun k hk e=>?_)⟩;obtain⟨_,c2,b2⟩:=cB h.row hk;rw[e,h.bs]at b2;simp at b2
theorem Ec{w:World}{base:Nat}{v:Value}{l:List Int}(h:w.ownsRow base 3 1 v l.length (dF l)):∃a c,v=.slice a l.length c:=by
 rcases h.2 with ⟨e,e0⟩ | ⟨g,c,_,e,_⟩
 .exact⟨none,0,by rw[e,e0]⟩
 .exact⟨_,c,e⟩
theorem Ir(sp:List (Int×Int))(bD:Bool)(s:Value)(g:Fn)(cs:Array Value)(line:ByteArray)(W:World){S:Nat->Prop}(hsp:Hid (d_ S sp s W))(hL:Hid (ik W))(hn:sp.length<=10)(mg:line.size<=1000000):
  Calls prog 181 #[.agg #[s,.bool bD,.func g #[] cs],.string line] W fun e w'=>ane W w' e (rd sp bD line):=by
 obtain⟨a,rfl,hat⟩:=Zq hsp;clear hsp;have HAT:=Y hat;clear hat;have j4:Hid (rd sp bD line=if (parts sp.length line).length=want sp bD then (nums sp (parts sp.length line) sp.length).map fun l=>(l,if bD=true then (parts sp.length line).getD (want sp bD-1) ⟨#[]⟩ else ⟨#[]⟩) else none):=Y rfl;have ZA:Hid (parts sp.length line=Lib.splitB ⟨#[32]⟩ 0 (min (2+sp.length) (line.size+1)-1) line):=Y rfl;have GR:Hid (want sp bD=1+sp.length+(if bD=true then 1 else 0)):=Y rfl;generalize rd sp bD line=IB at *;generalize parts sp.length line=ps at *;generalize want sp bD=wn at *;obtain⟨n,hnn⟩:=aG sp.length;rw[hnn]at j4 ZA HAT GR hn ⊢;have HN:=Y hnn;clear hnn;obtain⟨m,hm⟩:=hL.mx;have hb1:U W ((W.alloc (.cells #[.slice a n n,.bool bD,.func g #[] cs] 223)).alloc (.cells #[.slice none 0 0,.string ⟨#[]⟩] 280)):=aj.alloc (by simp) _;have PE:=Y (strings_SplitN line ⟨#[32]⟩ (2+n) m ((W.alloc (.cells #[.slice a n n,.bool bD,.func g #[] cs] 223)).alloc (.cells #[.slice none 0 0,.string ⟨#[]⟩] 280)) (by omega) (by rw[hb1.cell (bCq _ _ hm)];exact hm) (by decide) (by omega) (by omega));rw[<- ZA.out,show ((W.alloc (.cells #[.slice a n n,.bool bD,.func g #[] cs] 223)).alloc (.cells #[.slice none 0 0,.string ⟨#[]⟩] 280)).heap.size=W.heap.size+2 by simp,show ((2+n:Nat):Int)=2+(n:Int) by omega]at PE;obtain⟨w2,hw2⟩:∃w2,w2=((W.alloc (.cells #[.slice a n n,.bool bD,.func g #[] cs] 223)).alloc (.cells #[.slice none 0 0,.string ⟨#[]⟩] 280)).alloc (.cells (Lib.cellsOf ps (min (2+n) (line.size+1))) 9):=⟨_,rfl⟩;rw[<- hw2]at PE;have hbl:U W w2:=by rw[hw2];exact hb1.alloc hb1.size _
 have hsz:w2.heap.size=W.heap.size+3:=by rw[hw2];simp
 have bc:Hid (w2.heap[W.heap.size]?=some (.cells #[.slice a n n,.bool bD,.func g #[] cs] 223 (0,0))):=Y (by rw[hw2];exact sA (sA (D8 rfl)));have gM:Hid (w2.heap[W.heap.size+1]?=some (.cells #[.slice none 0 0,.string ⟨#[]⟩] 280 (0,0))):=Y (by rw[hw2];exact sA (D8 (by simp)));have bt:Hid (w2.heap[W.heap.size+2]?=some (.cells (Lib.cellsOf ps (min (2+n) (line.size+1))) 9 (0,0))):=Y (by rw[hw2];exact D8 (by simp));have iz:=Y hbl;have iy:=Y hsz;clear hb1 hm hw2 hbl hsz;generalize min (2+n) (line.size+1)=cap at *;have hwt:wn=if bD=true then 2+n else 1+n:=by rw[GR.out];cases bD <;> simp <;> omega
 cases bD <;> (
  go_enter func181,ntmps181
  go_wp2_with fail
  refine PE.mono ?_;rintro e w3 ⟨rfl,hw3⟩;subst w3;have c0:=ag bc 0 rfl;have r0:=ag gM 0 rfl;have r1:=ag gM 1 rfl;have f0:=aC gM 0;have f1:=aC gM 1;by_cases hp:ps.length=wn
  .simp only[if_true,Bool.false_eq_true,if_false]at hwt
   first
    | have hpl:((ps.length:Int) != 1+(n:Int))=false:=by simp;omega
    | have hpl:((ps.length:Int) != 1+(n:Int)+1)=false:=by simp;omega
   have ZB:1+n<=ps.length:=by omega
   have yR:=Y (j4.trans (if_pos hp));have HP:=Y hp;have tN:=Y hwt;have anf:=Y ZB;clear hp ZB;obtain⟨i5,z,hi,hz0,hz1,hz2,hz3⟩:=NJ;obtain⟨M,hM⟩:∃M,M=madeCells z.cells ((n:Int).toNat*i5.size):=⟨_,rfl⟩;have nB:M.size=n:=by rw[hM,size_madeCells,hz1];simp
   have ay:∀W:World,(Instr.makeSlice 23 (Z 0) (Z (n:Int))).run prog W=.ok (.slice (some (O W.heap.size 0)) 0 n) (W.alloc (.cells M 3)):=fun W=>by
    have h:=run_make (P:=prog) W 23 3 i5 z underlying23 hi hz0 .i64 .i64 (0:Int) (n:Int) (by omega) (by omega) (by rw[hz2];omega) (by omega);rw[<- hM]at h;simpa using h
   have hsz:=iy.out;have HI0:Hid (p8 W #[.slice a n n,.bool _,.func g #[] cs] ps cap [] (.slice (some ⟨W.heap.size+3,0,none⟩) 0 n) ((w2.alloc (.cells M 3)).alloc (.cells #[.slice (some ⟨W.heap.size+3,0,none⟩) 0 n,.string ⟨#[]⟩] 280))):=Y
    ⟨(iz.alloc iz.size _).alloc (lTq iz.size (by simp)) _,sA (sA bc),sA (sA gM),sA (sA bt),D8 (by simp[hsz]),World.ownsRow.alloc (by rw[<- hsz];exact World.ownsRow_made w2 M n (E _) (by unfold maxLen;omega) (by omega)) _⟩
   clear hM nB hi hz0 hz1 hz2 hz3 f0 f1 r0 r1 hwt;simp only[]
   go_wp2_with fail
   go_loopw [40] (fun kv wr=>∃(k:Nat) (l:List Int) (v:Value),k<=n/\kv=Z k/\p8 W #[.slice a n n,.bool _,.func g #[] cs] ps cap l v wr/\nums sp ps k=some l/\l.length=k) (fun kv _=>n-(intOf kv).toNat)
   case atStart=>exact⟨0,[],_,Nat.zero_le _,rfl,HI0,rfl,rfl⟩
   case round =>
    obtain⟨k,l,v,hk,rfl,hI,ZC,hlk⟩:=hrel;have HI:=Y hI;have wo:=Y ZC;have AY:=Y hlk;obtain⟨va,vc,rfl⟩:=Ec hI.row;clear hI ZC hlk ay c0;by_cases hlt:k<n
    .have aT:(k:Int)<n:=by omega
     obtain⟨b,hab,s0,s1⟩:=HAT.out k hlt;subst hab;rw[<- HI.out.bG.cell (bCq _ _ s0)]at s0;rw[<- HI.out.bG.cell (bCq _ _ s1)]at s1;have AZ:1+k<ps.length:=by have:=anf.out;omega
     have ang:1+(k:Int)<(ps.length:Int):=by omega
     have t0:wr.cell? ⟨W.heap.size+2,1+k,none⟩=some (.string (ps.getD (1+k) ⟨#[]⟩)):=by rw[cR _ _ _ _ _ _ HI.out.bt];exact Zy AZ
     have wR:Hid (nums sp ps (k+1)=match nums sp ps k with
      | none=>none
      | some l=>match gK 7 (ps.getD (1+k) ⟨#[]⟩) with
       | none=>none
       | some n=>if ah.aK n (sp.getD k (0,0)).1 (sp.getD k (0,0)).2=true then some (l++[(n:Int)]) else none):=Y rfl
     rw[wo.out]at wR;generalize ps.getD (1+k) ⟨#[]⟩=p at *;generalize (sp.getD k (0,0)).1=lo at *;generalize (sp.getD k (0,0)).2=hi at *;have uJ:(1+(k:Int)).toNat=1+k:=by omega
     have hba:U wr (wr.alloc (.cells #[Z lo,Z hi] 216)):=aj;have IC:=Y (HI.later hba);have Es:=Y (PG 7 (by decide) p _ (hL.later IC.bG).num);have anh:=cell_later hba t0;clear hba t0
     go_wp2_with fail
     refine Es.mono ?_;rintro e aI ⟨rfl,bR⟩;have lJ:=Y (IC.later bR);have hbx:=bF bR (hNq wr (.cells #[Z lo,Z hi] 216));have x0:=ag hbx 0 rfl;have x1:=ag hbx 1 rfl;clear bR hbx anh s0 s1;cases Gz:gK 7 p with
     | none =>
      rw[Gz]at wR;simp only[Option.getD_none,Option.isSome_none];have gU:=Y (IA lJ.bG (Nat.le_succ W.heap.size) lJ.gM (.slice none 0 0) (.string ⟨#[]⟩));have hz:Hid (IB=none):=Y (by
       have h1:=PD wR (n-(k+1));rw[show k+1+(n-(k+1))=n by omega]at h1;rw[yR.out,h1];rfl)
      have r0:=ag lJ.gM 0 rfl;have r1:=ag lJ.gM 1 rfl;have f0:=aC lJ.gM 0;have f1:=aC lJ.gM 1
      try simp only[]
      go_wp2;generalize (aI.setCell ⟨W.heap.size+1,0,none⟩ (.slice none 0 0)).setCell ⟨W.heap.size+1,1,none⟩ (.string ⟨#[]⟩)=aD at *;have y0:=ag gU.1 0 rfl;have y1:=ag gU.1 1 rfl;exact bodyPost_ret (v:=.tuple #[.agg #[.slice none 0 0,.string ⟨#[]⟩],.bool false]) (by simp[results,results181,go_sem,y0,y1]) rfl ⟨gU.2,.inl ⟨hz,rfl⟩⟩
     | some x =>
      rw[Gz]at wR;have ani:=Y (ib x lo hi aI);simp only[Option.getD_some,Option.isSome_some]
      go_wp2_with fail
      refine ani.mono ?_;rintro e aA ⟨rfl,G9⟩;subst aA;cases ZD:ah.aK x lo hi with
      | false =>
       simp only[ZD,Bool.false_eq_true,if_false]at wR;have gU:=Y (IA lJ.bG (Nat.le_succ W.heap.size) lJ.gM (.slice none 0 0) (.string ⟨#[]⟩));have hz:Hid (IB=none):=Y (by
        have h1:=PD wR (n-(k+1));rw[show k+1+(n-(k+1))=n by omega]at h1;rw[yR.out,h1];rfl)
       have r0:=ag lJ.gM 0 rfl;have r1:=ag lJ.gM 1 rfl;have f0:=aC lJ.gM 0;have f1:=aC lJ.gM 1
       try simp only[]
       go_wp2;generalize (aI.setCell ⟨W.heap.size+1,0,none⟩ (.slice none 0 0)).setCell ⟨W.heap.size+1,1,none⟩ (.string ⟨#[]⟩)=aD at *;have y0:=ag gU.1 0 rfl;have y1:=ag gU.1 1 rfl;exact bodyPost_ret (v:=.tuple #[.agg #[.slice none 0 0,.string ⟨#[]⟩],.bool false]) (by simp[results,results181,go_sem,y0,y1]) rfl ⟨gU.2,.inl ⟨hz,rfl⟩⟩
      | true =>
       simp only[ZD,if_true]at wR;have anj:l.length<=1000000:=by rw[AY.out];omega
       have hba:U aI (aI.alloc (.cells #[Z x] 3)):=aj;obtain⟨v6,aA,hap,fB,mU⟩:=anc aI (.slice va l.length vc) l x lJ.row anj (Nat.le_of_lt (Nat.lt_of_succ_lt (lBq lJ.bs)));have ank:=Y ((lJ.later hba).push mU fB);have wS:=(lJ.later hba).key mU;have z0:=ag wS 0 rfl;have amh:=aC wS 0;have z5:=ag lJ.bs 0 rfl;obtain⟨a6,c6,ZE⟩:=Ec fB;have IE:Hid ((l++[(x:Int)]).length=k+1):=Y (by rw[lAq,AY.out];rfl);rw[IE.out]at ZE;subst ZE;have cW:=Y hap;clear hap fB mU wS hba;simp only[]
       go_wp2_with (at_builtin;refine wpList_append_run rfl _ _ 23 rfl _ _ _ rfl rfl cW ?_)
       go_roundw
       case rel=>exact⟨k+1,l++[(x:Int)],_,hlt,by go_num,ank,wR,IE⟩
       case measure=>simp[intOf];omega
    .have aT:¬ (k:Int)<n:=by omega
     have hkn:k=n:=by omega
     have c1:wr.cell? (O W.heap.size 1)=some (.bool _):=(cR _ _ 1 _ _ _ HI.bc);rw[hkn]at wo;have q0:=ag HI.bs 0 rfl;have q1:=ag HI.bs 1 rfl;have g1:=aC HI.bs 1;have r0:=ag HI.gM 0 rfl;have r1:=ag HI.gM 1 rfl;have f0:=aC HI.gM 0;have f1:=aC HI.gM 1;rw[wo.out]at yR;simp only[Option.map_some,Bool.false_eq_true,if_false,if_true]at yR;clear hkn
     first
     | (have gU := Y (Zz HI.bG HI.gM HI.row ⟨#[]⟩)
        have jC:Hid (IB=some (l,⟨#[]⟩)):=Y yR;go_wp2;generalize (wr.setCell ⟨W.heap.size+1,0,none⟩ (.slice va l.length vc)).setCell ⟨W.heap.size+1,1,none⟩ (.string ⟨#[]⟩)=aD at *;have y0:=ag gU.1 0 rfl;have y1:=ag gU.1 1 rfl;exact bodyPost_ret (v:=.tuple #[.agg #[.slice va l.length vc,.string ⟨#[]⟩],.bool true]) (by simp[results,results181,go_sem,y0,y1]) rfl ⟨gU.2.1,.inr ⟨l,_,_,jC,rfl,gU.2.2⟩⟩)
     | (have ZF : wn-1=1+n := by have := tN.out; omega
        rw[ZF]at yR;have AZ:1+n<ps.length:=by have:=tN.out;have:=HP.out;omega
        have ang:1+(n:Int)<(ps.length:Int):=by omega
        have t0:wr.cell? ⟨W.heap.size+2,1+n,none⟩=some (.string (ps.getD (1+n) ⟨#[]⟩)):=by rw[cR _ _ _ _ _ _ HI.out.bt];exact Zy AZ
        generalize ps.getD (1+n) ⟨#[]⟩=p at *;have uJ:(1+(n:Int)).toNat=1+n:=by omega
        have HT:=HI.text p;have gU:=Y (Zz HT.1 HT.2.1 HT.2.2 p);clear ZF;go_wp2;generalize ((wr.setCell ⟨W.heap.size+3+1,1,none⟩ (.string p)).setCell ⟨W.heap.size+1,0,none⟩ (.slice va l.length vc)).setCell ⟨W.heap.size+1,1,none⟩ (.string p)=aD at *;have y0:=ag gU.1 0 rfl;have y1:=ag gU.1 1 rfl;exact bodyPost_ret (v:=.tuple #[.agg #[.slice va l.length vc,.string p],.bool true]) (by simp[results,results181,go_sem,y0,y1]) rfl ⟨gU.2.1,.inr ⟨l,_,_,yR,rfl,gU.2.2⟩⟩)
  .have hz:Hid (IB=none):=Y (by rw[j4.out,if_neg hp])
   simp only[if_true,Bool.false_eq_true,if_false]at hwt;have J6:¬ ((ps.length:Int)=(if wn=1+n then 1+(n:Int) else 1+(n:Int)+1)):=by split <;> omega
   have gU:=Y (IA iz (Nat.le_succ W.heap.size) gM (.slice none 0 0) (.string ⟨#[]⟩));clear hp;simp only[];go_wp2;generalize (w2.setCell ⟨W.heap.size+1,0,none⟩ (.slice none 0 0)).setCell ⟨W.heap.size+1,1,none⟩ (.string ⟨#[]⟩)=aD at *;have y0:=ag gU.1 0 rfl;have y1:=ag gU.1 1 rfl;exact bodyPost_ret (v:=.tuple #[.agg #[.slice none 0 0,.string ⟨#[]⟩],.bool false]) (by simp[results,results181,go_sem,y0,y1]) rfl ⟨gU.2,.inl ⟨hz,rfl⟩⟩)
end bg
end
section
open Go.RowKit Go.Shelf
def lm(last:Int):List ByteArray->Option (List Nat)
 | []=>some []
 | p::ps=>match gK 9 p with
  | none=>none
  | some n=>if n<=5/\last<(n:Int) then (lm n ps).map (n :: ·) else none
def qc(s:ByteArray):Option (List Nat):=if s.size=0 then some [] else lm (-1) ((pieces 44 s.data.toList).map aZ)
def rH(pre:List ByteArray)(ns:List Nat)(last:Int):Prop :=
 (∀qs,lm (-1) (pre++qs)=(lm last qs).map (ns++·))/\(ns.length:Int)<=last+1/\-1<=last/\last<=5
theorem rH.nil:rH [] [] (-1):=⟨fun qs=>by cases h:lm (-1) qs <;> simp[h],by simp,by omega,by omega⟩
theorem rH.step{pre:List ByteArray}{ns:List Nat}{last:Int}(h:rH pre ns last){p:ByteArray}{n:Nat}(hp:gK 9 p=some n)(h5:n<=5)(hl:last<(n:Int)):rH (pre++[p]) (ns++[n]) n:=by
 refine⟨fun qs=>?_,?_,by omega,by omega⟩
 .rw[aAq,h.1 ([p]++qs)]
  simp only[List.singleton_append,lm,hp,if_pos (And.intro h5 hl)];cases lm (n:Int) qs <;> simp
 .have:=h.2.1;simp;omega
theorem rH.bad{pre:List ByteArray}{ns:List Nat}{last:Int}(h:rH pre ns last){p:ByteArray}(hp:∀n,gK 9 p=some n->¬ (n<=5/\last<(n:Int)))(qs:List ByteArray):lm (-1) (pre++p::qs)=none:=by
 rw[h.1 (p::qs)];cases hn:gK 9 p with
 | none=>simp only[lm,hn];rfl
 | some n=>simp only[lm,hn,if_neg (hp n hn)];rfl
theorem rH.all{pre:List ByteArray}{ns:List Nat}{last:Int}(h:rH pre ns last):lm (-1) pre=some ns:=by have:=h.1 [];simpa [lm] using this
theorem Bn{W V:World}(h:U W V):KeepsOthers W V :=
 ⟨h.size,fun k _ hk _=>(h.block k (Array.getElem?_eq_some_iff.1 hk).1).trans hk⟩
theorem rF{W:World}{base e size k g:Nat}{v:Value}{xs:List Value}(h:W.ownsRow base e size v k xs)(hg:v.ownBlock=some g):base<=g:=by
 rcases h.2 with ⟨rfl,_⟩ | ⟨g',cap,cur,rfl,hb,_,_⟩
 .simp[Value.ownBlock]at hg
 .obtain rfl:g'=g:=by simpa [Value.ownBlock] using hg
  exact hb
theorem acF{W V:World}{base e size k:Nat}{v:Value}{xs:List Value}(h:W.ownsRow base e size v k xs)(hg:W.grownBy V v.ownBlock):KeepsOthers W V:=by
 refine KeepsOthers.of_grownBy hg fun j o AB hj=>?_;rcases h.2 with ⟨rfl,_⟩ | ⟨g,cap,cur,rfl,_,hgb,_⟩
 .simp[Value.ownBlock]at AB
 .obtain rfl:g=j:=by simpa [Value.ownBlock] using AB
  rw[hgb]at hj;cases hj;rfl
end
section
open Go.RowKit
theorem abW(d:Nat)(h:d<10):Lib.digitVal (UInt8.ofNat (48+d))=some d:=by
 have:∀i:Fin 10,Lib.digitVal (UInt8.ofNat (48+i.val))=some i.val:=by decide +kernel
 exact this ⟨d,h⟩
theorem abX(b:UInt8)(d:Nat)(hb:Lib.digitVal b=some d):∀(l:List UInt8) (a n:Nat),Lib.decFrom a l=some n->Lib.decFrom a (l++[b])=some (n*10+d)
 | [],a,n,h=>by
  simp only[Lib.decFrom,Option.some.injEq]at h;subst h;simp[Lib.decFrom,hb]
 | x::l,a,n,h=>by
  simp only[Lib.decFrom,List.cons_append]at h ⊢;cases hx:Lib.digitVal x with
  | none=>simp[hx]at h
  | some y=>simp only[hx]at h ⊢;exact abX b d hb l _ n h
theorem arb(n:Nat):Lib.decFrom 0 (Lib.decDigits n)=some n:=by
 induction n using Nat.strongRecOn with
 | _ n ih =>
  rw[Lib.decDigits];split
  .rename_i h;rw[Lib.decFrom,abW n h];simp[Lib.decFrom]
  .rename_i h
   rw[abX _ (n%10) (abW _ (by omega)) _ 0 (n/10) (ih (n/10) (by omega))];congr 1;omega
theorem E1(n:Nat):∀b∈Lib.decDigits n,48<=b.toNat/\b.toNat<=57:=by
 have key:∀d,d<10->48<=(UInt8.ofNat (48+d)).toNat/\(UInt8.ofNat (48+d)).toNat<=57:=fun d hd=>by
  have:∀i:Fin 10,48<=(UInt8.ofNat (48+i.val)).toNat/\(UInt8.ofNat (48+i.val)).toNat<=57:=by decide +kernel
  exact this ⟨d,hd⟩
 induction n using Nat.strongRecOn with
 | _ n ih =>
  intro b hb;rw[Lib.decDigits]at hb;split at hb
  .rename_i h;rw[List.mem_singleton.1 hb];exact key n h
  .rename_i h
   rcases List.mem_append.1 hb with h1 | h1
   .exact ih _ (by omega) b h1
   .rw[List.mem_singleton.1 h1];exact key _ (by omega)
theorem abY(n:Nat):Lib.decDigits n≠[]:=by rw[Lib.decDigits];split <;> simp
theorem Iq:∀(k n:Nat),n<10 ^ (k+1)->(Lib.decDigits n).length<=k+1
 | 0,n,h=>by rw[Lib.decDigits,dif_pos (by omega)];simp
 | k+1,n,h=>by
  rw[Lib.decDigits];split
  .simp
  .have:=Iq k (n/10) (by rw[Nat.pow_succ]at h;omega)
   simp;omega
theorem arc(n:Nat):Lib.atoi (Lib.decDigits n)=some (n:Int):=by
 have h1:=arb n;have h2:=E1 n;cases hd:Lib.decDigits n with
 | nil=>exact absurd hd (abY n)
 | cons b r =>
  have hb:=h2 b (by rw[hd];exact mSq);have e1:(b==45)=false:=by
   cases h:b==45
   .rfl
   .have:b=45:=by simpa using h
    subst this;exact absurd hb.1 (by decide)
  have e2:(b==43)=false:=by
   cases h:b==43
   .rfl
   .have:b=43:=by simpa using h
    subst this;exact absurd hb.1 (by decide)
  rw[Lib.atoi,e1,e2];simp only[Bool.false_eq_true,if_false];rw[hd]at h1;rw[Lib.decNat,h1];simp
theorem Rb(n:Nat):Lib.itoa (n:Int)=Lib.decDigits n:=by unfold Lib.itoa;rw[if_neg (by omega)];simp
theorem abZ(k n:Nat)(h:n<10 ^ (k+1)):gK (k+1) (aZ (Lib.decDigits n))=some n:=by
 have hl:=Iq k n h;have e:(aZ (Lib.decDigits n)).size=(Lib.decDigits n).length:=by simp[aZ,ByteArray.size]
 rw[gK,if_neg (by rw[e];omega)];have:(aZ (Lib.decDigits n)).data.toList=Lib.decDigits n:=by simp[aZ]
 rw[this,arc];simp only[];rw[if_neg (by omega),Rb];show (if (⟨(Lib.decDigits n).toArray⟩:ByteArray)=⟨(Lib.decDigits n).toArray⟩ then some (n:Int).toNat else none)=_;rw[if_pos rfl];rfl
theorem index_first(c:UInt8):∀(a r:List UInt8),(∀b∈a,b≠c)->Lib.index (a++c::r) [c]=a.length
 | [],r,_=>by simp[Lib.index,List.isPrefixOf]
 | x::a,r,h=>by
  have hx:(c==x)=false:=by
   cases hb:c==x
   .rfl
   .exact absurd (by simpa using hb:c=x).symm (h x mSq)
  have ih:=index_first c a r (fun b hb=>h b (mOq _ hb));rw[List.cons_append,Lib.index,ih];simp[List.isPrefixOf,hx]
theorem index_none(c:UInt8):∀(a:List UInt8),(∀b∈a,b≠c)->Lib.index a [c] = -1
 | [],_=>by simp[Lib.index]
 | x::a,h=>by
  have hx:(c==x)=false:=by
   cases hb:c==x
   .rfl
   .exact absurd (by simpa using hb:c=x).symm (h x mSq)
  rw[Lib.index,index_none c a (fun b hb=>h b (mOq _ hb))];simp[List.isPrefixOf,hx]
theorem ab0(c:UInt8)(a r:List UInt8)(h:∀b∈a,b≠c):Lib.cut (a++c::r) [c]=(a,r,true):=by unfold Lib.cut;rw[index_first c a r h,if_pos (by omega)];simp
theorem ard(c:UInt8)(a:List UInt8)(h:∀b∈a,b≠c):Lib.cut a [c]=(a,[],false):=by unfold Lib.cut;rw[index_none c a h,if_neg (by omega)]
theorem ab1(c:UInt8):∀(a r:List UInt8),(∀b∈a,b≠c)->pieces c (a++c::r)=a::pieces c r
 | [],r,_=>by simp[pieces]
 | x::a,r,h=>by
  have hx:(x==c)=false:=by simpa using h x mSq
  rw[List.cons_append,pieces,ab1 c a r (fun b hb=>h b (mOq _ hb)),hx];simp
theorem ab2(c:UInt8):∀(a:List UInt8),(∀b∈a,b≠c)->pieces c a=[a]
 | [],_=>rfl
 | x::a,h=>by
  have hx:(x==c)=false:=by simpa using h x mSq
  rw[pieces,ab2 c a (fun b hb=>h b (mOq _ hb)),hx];simp
def lj(c:UInt8):List (List UInt8)->List UInt8
 | []=>[]
 | a::l=>a++l.flatMap (fun x=>c::x)
theorem Rc(c:UInt8):∀(a:List UInt8) (l:List (List UInt8)),(∀x∈a::l,∀b∈x,b≠c)->pieces c (lj c (a::l))=a::l
 | a,[],h=>by
  simp only[lj,List.flatMap_nil,List.append_nil];exact ab2 c a (h a mSq)
 | a,x::l,h=>by
  have ih:=Rc c x l (fun y hy=>h y (mOq _ hy));simp only[lj,List.flatMap_cons,List.cons_append]at ih ⊢;rw[ab1 c a _ (h a mSq),ih]
def rB(xs:List Int):List UInt8:=xs.map fun n=>UInt8.ofNat n.toNat
theorem arf(xs:List Int):(strOfNums xs).data.toList=rB xs:=by simp[strOfNums,rB]
theorem xb(a b:List Int):rB (a++b)=rB a++rB b:=List.map_append
theorem ab3(n:Int):rB (Ve.dec n)=Lib.itoa n:=by
 unfold rB Ve.dec;rw[List.map_map];have:((fun n:Int=>UInt8.ofNat n.toNat) ∘ fun b:UInt8=>(b.toNat:Int))=id:=by funext b;simp
 rw[this,List.map_id]
theorem ab4:∀x,x<16->UInt8.ofNat (Ve.uN x).toNat=uS x:=by
 have:∀i:Fin 16,UInt8.ofNat (Ve.uN i.val).toNat=uS i.val:=by decide +kernel
 exact fun x h=>this ⟨x,h⟩
theorem ab5(s:ByteArray):∀k,k<=s.size->rB (Ve.m_ s k)=mA (s.data.toList.take k)
 | 0,_=>rfl
 | k+1,h=>by
  have hk:k<s.data.toList.length:=by rw[Array.length_toList];exact h
  have hlt:aS s k<256:=by unfold aS;exact UInt8.toNat_lt _
  have e:s.data.toList.take (k+1)=s.data.toList.take k++[s.data.toList[k]]:=by rw[List.take_add_one,List.getElem?_eq_getElem hk];rfl
  have e2:(s.data.toList[k]).toNat=aS s k:=by unfold aS;rw[gE,List.getElem?_eq_getElem hk];rfl
  rw[Ve.m_,xb,ab5 s k (by omega),e];unfold mA;rw[List.flatMap_append];congr 1;simp only[List.flatMap_cons,List.flatMap_nil,List.append_nil,e2,rB,List.map_cons,List.map_nil];rw[ab4 _ (by omega),ab4 _ (by omega)]
theorem arh(c:UInt8)(l:List (List UInt8))(x:List UInt8):lj c (l++[x])=lj c l++((if 0<l.length then [c] else [])++x):=by
 cases l with
 | nil=>simp[lj]
 | cons a l=>simp[lj]
theorem ab6(ds:List Nat):∀k,k<=ds.length->rB (Ve.nc ds k)=lj 44 ((ds.take k).map Lib.decDigits)
 | 0,_=>rfl
 | k+1,h=>by
  have hk:k<ds.length:=h;have e:ds.take (k+1)=ds.take k++[ds.getD k 0]:=by rw[List.take_add_one,List.getElem?_eq_getElem hk,gE,List.getElem?_eq_getElem hk];rfl
  rw[Ve.nc,xb,xb,ab6 ds k (by omega),ab3,Rb,e,List.map_append,List.map_singleton,arh];congr 2;rw[List.length_map,lKq,Nat.min_eq_left (by omega)];split <;> rfl
theorem ab7(l:List Ask):∀k,k<=l.length->rB (Ve.pn l k)=(l.take k).flatMap fun a=>32::mA (Ve.bA a).data.toList
 | 0,_=>rfl
 | k+1,h=>by
  have hk:k<l.length:=h;have e:l.take (k+1)=l.take k++[dD l k]:=by rw[List.take_add_one,GQ hk];rfl
  rw[Ve.pn,xb,xb,ab7 l k (by omega),ab5 _ _ (E _),e,List.flatMap_append];congr 1;simp only[List.flatMap_cons,List.flatMap_nil,List.append_nil];rw[List.take_of_length_le (by rw[Array.length_toList];exact E _)];rfl
theorem ari(bt:Nat)(ds:List Nat)(l:List Ask):(Ve.iq bt ds l).data.toList=Lib.decDigits bt++58::(lj 44 (ds.map Lib.decDigits)++l.flatMap fun a=>32::mA (Ve.bA a).data.toList):=by unfold Ve.iq Ve.Jb;rw[arf,xb,xb,xb,ab3,Rb,ab6 ds _ (E _),ab7 l _ (E _),List.take_length,List.take_length];show (Lib.decDigits bt++[58]++_)++_=_;simp
def jI:List (List UInt8)->Option (List (List UInt8))
 | []=>some []
 | p::ps=>match unhex p with
  | none=>none
  | some x=>(jI ps).map (x :: ·)
theorem ab8:∀l:List (List UInt8),jI (l.map mA)=some l
 | []=>rfl
 | x::l=>by simp[jI,ab9,ab8 l]
def xd(s:ByteArray):Option (Nat×List Nat×List (List UInt8)) :=
 let h:=Lib.cut s.data.toList [58]
 let t:=Lib.cut h.2.1 [32]
 if h.2.2=true then
  match gK 9 (aZ h.1),qc (aZ t.1) with
  | some n,some ds=>if t.2.2=true then (jI (pieces 32 t.2.1)).map fun fs=>(n,ds,fs) else some (n,ds,[])
  | _,_=>none
 else none
theorem arj(l:List UInt8):∀b∈mA l,48<=b.toNat:=by
 have key:∀i:Fin 16,48<=(uS i.val).toNat:=by decide +kernel
 intro b hb;obtain⟨x,_,hx⟩:=List.mem_flatMap.1 hb;have hlt:=x.toNat_lt;simp only[List.mem_cons,List.not_mem_nil,or_false]at hx;rcases hx with rfl | rfl
 .exact key ⟨x.toNat/16,by omega⟩
 .exact key ⟨x.toNat%16,by omega⟩
theorem Ju{b c:UInt8}(h:b.toNat≠c.toNat):b≠c:=fun e=>h (by rw[e])
theorem ark(ds:List Nat):∀b∈lj 44 (ds.map Lib.decDigits),44<=b.toNat:=by
 cases ds with
 | nil=>intro b hb;cases hb
 | cons d ds =>
  intro b hb;rcases List.mem_append.1 hb with h1 | h1
  .have:=E1 d b h1;omega
  .obtain⟨x,hx,hbx⟩:=List.mem_flatMap.1 h1
   obtain⟨n,_,rfl⟩:=List.mem_map.1 hx;rcases List.mem_cons.1 hbx with rfl | h2
   .decide
   .have:=E1 n b h2;omega
theorem aca:∀(ds:List Nat) (last:Int),ds.Pairwise (· < ·)->(∀d∈ds,d<6)->(∀d∈ds,last<(d:Int))->lm last (ds.map fun d=>aZ (Lib.decDigits d))=some ds
 | [],_,_,_,_=>rfl
 | d::ds,last,hp,h6,hl=>by
  obtain⟨h1,h2⟩:=List.pairwise_cons.1 hp;have hd:=h6 d mSq;have e1:gK 9 (aZ (Lib.decDigits d))=some d:=abZ 8 d (by omega);have ih:=aca ds d h2 (fun x hx=>h6 x (mOq _ hx)) (fun x hx=>by have:=h1 x hx;omega);simp only[List.map_cons,lm,e1];rw[if_pos ⟨by omega,hl d mSq⟩,ih];rfl
theorem arl(ds:List Nat)(hp:ds.Pairwise (· < ·))(h6:∀d∈ds,d<6):qc (aZ (lj 44 (ds.map Lib.decDigits)))=some ds:=by
 cases ds with
 | nil=>rfl
 | cons d ds =>
  have hne:(aZ (lj 44 ((d::ds).map Lib.decDigits))).size≠0:=by
   have:=abY d
   have h2:0<(Lib.decDigits d).length:=List.length_pos_iff.2 this;show (lj 44 ((d::ds).map Lib.decDigits)).toArray.size≠0;simp only[List.map_cons,lj,List.size_toArray,List.length_append];omega
  rw[qc,if_neg hne];show lm (-1) ((pieces 44 (lj 44 ((d::ds).map Lib.decDigits))).map aZ)=_;rw[List.map_cons,Rc 44 _ _ (fun x hx b hb=>?_),<- List.map_cons,List.map_map]
  .exact aca (d::ds) (-1) hp h6 (fun x _=>by omega)
  .rw[<- List.map_cons]at hx
   obtain⟨n,_,rfl⟩:=List.mem_map.1 hx
   have:=E1 n b hb
   exact Ju (by show b.toNat≠44;omega)
theorem arn(bt:Nat)(b:Ve.dU)(hb:Ve.rC b)(hn:bt<1000000000):xd (Ve.iq bt b.ds b.l)=some (bt,b.ds,b.l.map fun a=>(Ve.bA a).data.toList):=by
 obtain⟨ds,l⟩:=b;have hr:=arl ds hb.acb hb.few;have qd:gK 9 (aZ (Lib.decDigits bt))=some bt:=abZ 8 bt hn;have aro:∀x∈Lib.decDigits bt,x≠58:=fun x hx=>by have:=E1 bt x hx;exact Ju (by show x.toNat≠58;omega)
 have GV:∀x∈lj 44 (ds.map Lib.decDigits),x≠32:=fun x hx=>by have:=ark ds x hx;exact Ju (by show x.toNat≠32;omega)
 unfold xd;rw[ari,ab0 58 _ _ aro];simp only[];cases l with
 | nil =>
  rw[List.flatMap_nil,aNq,ard 32 _ GV];simp only[qd,hr];rfl
 | cons a l =>
  rw[List.flatMap_cons,List.cons_append,ab0 32 _ _ GV];simp only[qd,hr];have e:mA (Ve.bA a).data.toList++l.flatMap (fun a=>32::mA (Ve.bA a).data.toList)=lj 32 (mA (Ve.bA a).data.toList::(l.map fun a=>mA (Ve.bA a).data.toList)):=by simp only[lj,List.flatMap_map]
  rw[e,Rc 32 _ _ (fun x hx b hb=>?_)]
  .have e2:mA (Ve.bA a).data.toList::(l.map fun a=>mA (Ve.bA a).data.toList)=((a::l).map fun a=>(Ve.bA a).data.toList).map mA:=by simp
   rw[e2,ab8];rfl
  .have hx':∃y,x=mA y:=by
    rcases List.mem_cons.1 hx with rfl | h1
    .exact⟨_,rfl⟩
    .obtain⟨y,_,rfl⟩:=List.mem_map.1 h1;exact⟨_,rfl⟩
   obtain⟨y,rfl⟩:=hx'
   have:=arj y b hb
   exact Ju (by show b.toNat≠32;omega)
theorem AV{a:Ask}(h:a_.ac a=0):eM (Ve.bA a)=0/\Ve.cH (Ve.bA a)=a:=by
 have hc:ah.code a.k a.c a.sq a.it a.sd a.pr a.q a.id=0:=h;have e:Ve.bA a=strOfNums (ah.frame a.k a.c a.sq a.it a.sd a.pr a.q a.id):=by unfold Ve.bA oA;rw[if_pos hc]
 obtain⟨h1,h2⟩:=YH hc;rw[<- e]at h1 h2;refine⟨h1,?_⟩;unfold s5 at h2;simp only[Value.agg.injEq,Array.mk.injEq,List.cons.injEq,Value.int.injEq,true_and,and_true]at h2;obtain⟨e0,e1,e2,e3,e4,e5,e6,e7⟩:=h2;unfold Ve.cH dv;simp only[h1,if_true,e0,e1,e2,e3,e4,e5,e6,e7]
end
end Go.Proofs.YtjolccidheflpaaGreatDoor
