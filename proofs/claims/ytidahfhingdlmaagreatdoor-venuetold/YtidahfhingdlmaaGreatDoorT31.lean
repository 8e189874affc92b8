/- A venue in memory: its own block, its floor, its intake, its tape; which blocks an act may turn. -/
import Derived.Test.YtidahfhingdlmaaGreatDoorT26
import Derived.Test.YtidahfhingdlmaaGreatDoorT28
import Derived.Test.YtidahfhingdlmaaGreatDoorT22
import Derived.Test.YtidahfhingdlmaaGreatDoorT30
namespace Go.Proofs.YtidahfhingdlmaaGreatDoor
open Go.RowKit
set_option maxRecDepth 100000
structure Vb where
 V:Nat
 F:Nat
 P:Nat
 q:Nat
 d:Nat
 I:Nat→Nat
 b:Nat→Nat
structure Vx where
 v:Nat→Value
 qv:Nat→Value
 dv:Value
def cAt (S:Ve.St) (c:Nat):Nat→Value
 | 0=>.bool (S.on c)
 | 1=>.int .i64 (S.nx c)
 | 2=>.int .i64 (S.la c)
 | 3=>.string (S.lf c)
 | _=>.bool (S.dr c)
def cRow (S:Ve.St) (c:Nat):List Value:=[.bool (S.on c),.int .i64 (S.nx c),.int .i64 (S.la c),.string (S.lf c),.bool (S.dr c)]
def vRow (B:Vb) (seed:Int) (S:Ve.St):Array Value :=
 (([.int .u32 seed,.pointer (some ⟨B.F,0,none⟩),.pointer (some ⟨B.q,0,none⟩),.pointer (some ⟨B.d,0,none⟩)]:List Value)++(cRow S 0++(cRow S 1++(cRow S 2++(cRow S 3++(cRow S 4++(cRow S 5++[Value.int .i64 S.now,Value.int .i64 S.bt,Value.bool S.down]))))))).toArray
theorem vRow_conn (B:Vb) (seed:Int) (S:Ve.St) {c j:Nat} (hc:c < 6) (hj:j < 5):(vRow B seed S)[4 + c * 5 + j]? = some (cAt S c j):=by
 have h1:c = 0∨c = 1∨c = 2∨c = 3∨c = 4∨c = 5:=by omega
 have h2:j = 0∨j = 1∨j = 2∨j = 3∨j = 4:=by omega
 rcases h1 with rfl | rfl | rfl | rfl | rfl | rfl <;> rcases h2 with rfl | rfl | rfl | rfl | rfl <;> rfl
theorem vRow_set (B:Vb) (seed:Int) (S S':Ve.St) {c j:Nat} (hc:c < 6) (hj:j < 5) (u:Value)
  (h:∀ c' j',c' < 6→j' < 5→cAt S' c' j' = if c' = c∧j' = j then u else cAt S c' j') (hn:S'.now = S.now) (hb:S'.bt = S.bt) (hd:S'.down = S.down) :
  (vRow B seed S).setIfInBounds (4 + c * 5 + j) u = vRow B seed S':=by
 have h0:=fun c' j' (h1:c' < 6) (h2:j' < 5)=>h c' j' h1 h2
 have e:∀ c',c' < 6→cRow S' c' = [if c' = c∧0 = j then u else cAt S c' 0,if c' = c∧1 = j then u else cAt S c' 1,if c' = c∧2 = j then u else cAt S c' 2,if c' = c∧3 = j then u else cAt S c' 3,if c' = c∧4 = j then u else cAt S c' 4]:=fun c' h1=>by
  rw [← h0 c' 0 h1 (by decide),← h0 c' 1 h1 (by decide),← h0 c' 2 h1 (by decide),← h0 c' 3 h1 (by decide),← h0 c' 4 h1 (by decide)]
  rfl
 unfold vRow
 rw [e 0 (by decide),e 1 (by decide),e 2 (by decide),e 3 (by decide),e 4 (by decide),e 5 (by decide),hn,hb,hd]
 have h1:c = 0∨c = 1∨c = 2∨c = 3∨c = 4∨c = 5:=by omega
 have h2:j = 0∨j = 1∨j = 2∨j = 3∨j = 4:=by omega
 rcases h1 with rfl | rfl | rfl | rfl | rfl | rfl <;> rcases h2 with rfl | rfl | rfl | rfl | rfl <;> rfl
structure Ven (w W:World) (B:Vb) (X:Vx) (wd h seed:Int) (S:Ve.St):Prop where
 blk:W.heap[B.V]? = some (.cells (vRow B seed S) 111 (0,0))
 fl:PFl w W B.F B.P B.I B.b X.v S.L S.pf S.n wd h
 it:Itk W w.heap.size B.q X.qv S.t S.Q
 dk:Dsk W w.heap.size B.d X.dv S.tp S.cut S.left
 lo:w.heap.size≤B.V
def vown (B:Vb) (X:Vx) (k:Nat):Prop:=k = B.V∨k = B.P∨(∃ i,i < 3∧(k = B.I i∨k = B.b i∨(X.v i).ownBlock = some k))∨qown B.q X.qv k∨k = B.d∨X.dv.ownBlock = some k
structure VStep (W W':World) (B:Vb) (X X':Vx):Prop where
 turned:Turned W W' (vown B X)
 new:∀ k,vown B X' k→vown B X k∨W.heap.size≤k
section
variable {w W W' W2:World} {B:Vb} {X X' X2:Vx} {wd h seed:Int} {S:Ve.St}
theorem VStep.refl (W:World) (B:Vb) (X:Vx):VStep W W B X X:=⟨Turned.refl _ _,fun _ h=>.inl h⟩
theorem VStep.of_below (hb:Below W.heap.size W W') (B:Vb) (X:Vx):VStep W W' B X X:=⟨Turned.of_below hb _,fun _ h=>.inl h⟩
theorem VStep.trans (h:VStep W W' B X X') (h1:VStep W' W2 B X' X2):VStep W W2 B X X2 :=
 ⟨h.turned.trans h1.turned h.new,fun k hk=>by
  rcases h1.new k hk with h3 | h3
  ·exact h.new k h3
  ·exact .inr (Nat.le_trans h.turned.size h3)⟩
theorem VStep.below (h:VStep W W' B X X') (hb:Below W'.heap.size W' W2):VStep W W2 B X X':=h.trans (VStep.of_below hb B X')
theorem Dsk.lt {base p:Nat} {v:Value} {l:List UInt8} {cut:Bool} {left:Int} (h:Dsk W base p v l cut left):p < W.heap.size:=lt_of_block h.cell
theorem RowM.turned {base:Nat} {v:Value} {xs:List Int} {T:Nat→Prop} (hr:RowM W base v xs) (h:Turned W W' T) (ha:∀ k,v.ownBlock = some k→¬ T k):RowM W' base v xs :=
 hr.block fun k hk=>h.block k (hr.lt k hk).2 (ha k hk)
theorem RowM.ne_type {base:Nat} {v:Value} {xs:List Int} {cur:Array Value} {e:TypeId} {fz:Nat × Nat} {q:Nat} (hr:RowM W base v xs) (hq:W.heap[q]? = some (.cells cur e fz)) (hne:e≠5):v.ownBlock≠some q:=by
 obtain ⟨g,cap,cur2,fz2,rfl,_,hg,_⟩:=hr
 intro hk
 have:g = q:=by simpa [Value.ownBlock] using hk
 rw [this,hq] at hg
 simp at hg
 exact hne hg.2.1
theorem Dsk.turned {base p:Nat} {v:Value} {l:List UInt8} {cut:Bool} {left:Int} {T:Nat→Prop} (h:Dsk W base p v l cut left) (ht:Turned W W' T) (h1:¬ T p) (h2:∀ k,v.ownBlock = some k→¬ T k):Dsk W' base p v l cut left :=
 ⟨by rw [ht.block p h.lt h1];exact h.cell,h.row.turned ht h2,h.lo⟩
theorem Ven.own_lt (H:Ven w W B X wd h seed S) {k:Nat} (hk:vown B X k):w.heap.size≤k∧k < W.heap.size:=by
 rcases hk with rfl | rfl | ⟨i,hi,rfl | rfl | hk⟩ | hk | rfl | hk
 ·exact ⟨H.lo,lt_of_block H.blk⟩
 ·exact ⟨H.fl.lop,lt_of_block H.fl.pu⟩
 ·exact ⟨H.fl.loI i hi,lt_of_block (H.fl.it i hi)⟩
 ·exact ⟨(H.fl.bk i hi).lo,lt_of_block (H.fl.bk i hi).cell⟩
 ·exact (H.fl.bk i hi).rowLt k hk
 ·exact H.it.own_lt hk
 ·exact ⟨H.dk.lo,H.dk.lt⟩
 ·exact H.dk.row.lt k hk
theorem Ven.bl (H:Ven w W B X wd h seed S):Below w.heap.size w W:=H.fl.bl
theorem VStep.low (hs:VStep W W' B X X') (H:Ven w W B X wd h seed S):Below w.heap.size W W' :=
 hs.turned.below H.bl.size (fun _ hk=>(H.own_lt hk).1)
theorem PFl.turned {F P:Nat} {I b:Nat→Nat} {v:Nat→Value} {L:Nat→List Cv.Lot} {pf n:Nat→Int} {T:Nat→Prop} (hf:PFl w W F P I b v L pf n wd h) (ht:Turned W W' T) (hF:¬ T F) (hP:¬ T P) (h3:∀ i,i < 3→¬ T (I i)∧¬ T (b i)∧∀ k,(v i).ownBlock = some k→¬ T k) (hT:∀ k,T k→w.heap.size≤k):PFl w W' F P I b v L pf n wd h:=by
 refine ⟨by rw [ht.block F (lt_of_block hf.blk) hF];exact hf.blk,fun i hi=>by rw [ht.block _ (lt_of_block (hf.it i hi)) (h3 i hi).1];exact hf.it i hi,fun i hi=>?_,hf.neI,hf.ne,hf.ap,?_,hf.lo,hf.lop,hf.loI,hf.bl.trans (ht.below hf.bl.size hT)⟩
 ·have hb:=hf.bk i hi
  exact ⟨by rw [ht.block _ (lt_of_block hb.cell) (h3 i hi).2.1];exact hb.cell,hb.lo,row_turned hb.row ht (h3 i hi).2.2⟩
 ·show W'.heap[P]? = _
  rw [ht.block P (lt_of_block hf.pu) hP];exact hf.pu
theorem Ven.aside {T:Nat→Prop} (H:Ven w W B X wd h seed S) (ht:Turned W W' T) (hF:¬ T B.F) (ho:∀ k,vown B X k→¬ T k) (hT:∀ k,T k→w.heap.size≤k):Ven w W' B X wd h seed S :=
 ⟨by rw [ht.block _ (lt_of_block H.blk) (ho _ (.inl rfl))];exact H.blk,
  H.fl.turned ht hF (ho _ (.inr (.inl rfl))) (fun i hi=>⟨ho _ (.inr (.inr (.inl ⟨i,hi,.inl rfl⟩))),ho _ (.inr (.inr (.inl ⟨i,hi,.inr (.inl rfl)⟩))),fun k hk=>ho k (.inr (.inr (.inl ⟨i,hi,.inr (.inr hk)⟩)))⟩) hT,
  H.it.turned ht (fun k hk=>ho k (.inr (.inr (.inr (.inl hk))))),
  H.dk.turned ht (ho _ (.inr (.inr (.inr (.inr (.inl rfl)))))) (fun k hk=>ho k (.inr (.inr (.inr (.inr (.inr hk)))))),H.lo⟩
theorem Ven.later (H:Ven w W B X wd h seed S) (hb:Below W.heap.size W W'):Ven w W' B X wd h seed S :=
 H.aside (Turned.of_below hb (fun _=>False)) (fun h=>h) (fun _ _ h=>h) (fun _ h=>h.elim)
theorem vown_type (H:Ven w W B X wd h seed S) {k:Nat} {cur:Array Value} {e:TypeId} {fz:Nat × Nat} (hk:W.heap[k]? = some (.cells cur e fz)) (he:e≠111∧e≠131∧e≠134∧e≠139∧e≠137∧e≠174∧e≠45∧e≠142∧e≠5):¬ vown B X k:=by
 have ty:∀ {q:Nat} {a:Array Value} {T:TypeId} {fy:Nat × Nat},W.heap[q]? = some (.cells a T fy)→e≠T→k≠q:=fun hq hT=>blkT hk hq hT
 rintro (rfl | rfl | ⟨i,hi,rfl | rfl | h1⟩ | (rfl | ⟨c,hc,h1⟩) | rfl | h1)
 ·exact ty H.blk he.1 rfl
 ·exact ty H.fl.pu he.2.1 rfl
 ·exact ty (H.fl.it i hi) he.2.2.1 rfl
 ·exact ty (H.fl.bk i hi).cell he.2.2.2.1 rfl
 ·exact rowT (H.fl.bk i hi).row hk he.2.2.2.2.1 h1
 ·exact ty H.it.cell he.2.2.2.2.2.1 rfl
 ·rcases (H.it.row c hc).2 with ⟨e1,_⟩ | ⟨r,cap,cur2,e1,_,hr2,_⟩
  ·rw [e1] at h1;cases h1
  ·rw [e1] at h1
   have:r = k:=by simpa [Value.ownBlock] using h1
   rw [this,hk] at hr2
   simp at hr2
   exact he.2.2.2.2.2.2.1 hr2.2.1
 ·exact ty H.dk.cell he.2.2.2.2.2.2.2.1 rfl
 ·exact H.dk.row.ne_type hk he.2.2.2.2.2.2.2.2 h1
theorem VStep.row {base:Nat} {e:TypeId} {s n:Nat} {v:Value} {xs:List Value} (hs:VStep W W' B X X') (H:Ven w W B X wd h seed S) (hr:W.ownsRow base e s v n xs) (he:e≠111∧e≠131∧e≠134∧e≠139∧e≠137∧e≠174∧e≠45∧e≠142∧e≠5):W'.ownsRow base e s v n xs:=by
 refine row_turned hr hs.turned (fun k hk=>?_)
 rcases hr.2 with ⟨e1,_⟩ | ⟨r,cap,cur,e1,_,hr2,_⟩
 ·rw [e1] at hk;cases hk
 ·rw [e1] at hk
  have:r = k:=by simpa [Value.ownBlock] using hk
  rw [this] at hr2
  exact vown_type H hr2 he
theorem VStep.block {k:Nat} {cur:Array Value} {e:TypeId} {fz:Nat × Nat} (hs:VStep W W' B X X') (H:Ven w W B X wd h seed S) (hk:W.heap[k]? = some (.cells cur e fz)) (he:e≠111∧e≠131∧e≠134∧e≠139∧e≠137∧e≠174∧e≠45∧e≠142∧e≠5):W'.heap[k]? = some (.cells cur e fz):=by
 rw [hs.turned.block k (lt_of_block hk) (vown_type H hk he)];exact hk
theorem Ven.floor {v':Nat→Value} {L':Nat→List Cv.Lot} {pf' n':Nat→Int} (H:Ven w W B X wd h seed S) (hf:PFl w W' B.F B.P B.I B.b v' L' pf' n' wd h) (hs:FStep W W' B.P B.I B.b X.v v') :
  Ven w W' B { X with v:=v' } wd h seed { S with L:=L',pf:=pf',n:=n' }∧VStep W W' B X { X with v:=v' }:=by
 have ht:Turned W W' (fun k=>k = B.P∨∃ i,i < 3∧(k = B.I i∨k = B.b i∨(X.v i).ownBlock = some k)) :=
  ⟨hs.os,hs.tape,hs.output,hs.size,fun k hk hn=>hs.keep k hk (fun e=>hn (.inl e)) (fun i hi=>⟨fun e=>hn (.inr ⟨i,hi,.inl e⟩),fun e=>hn (.inr ⟨i,hi,.inr (.inl e)⟩),fun e=>hn (.inr ⟨i,hi,.inr (.inr e)⟩)⟩)⟩
 have ty:∀ {k:Nat} {cur:Array Value} {e:TypeId} {fz:Nat × Nat},W.heap[k]? = some (.cells cur e fz)→e≠131∧e≠134∧e≠139∧e≠137→¬ (k = B.P∨∃ i,i < 3∧(k = B.I i∨k = B.b i∨(X.v i).ownBlock = some k)):=fun {k cur e fz} hk he=>by
  rintro (rfl | ⟨i,hi,rfl | rfl | h1⟩)
  ·exact blkT hk H.fl.pu he.1 rfl
  ·exact blkT hk (H.fl.it i hi) he.2.1 rfl
  ·exact blkT hk (H.fl.bk i hi).cell he.2.2.1 rfl
  ·exact rowT (H.fl.bk i hi).row hk he.2.2.2 h1
 refine ⟨⟨?_,hf,?_,?_,H.lo⟩,⟨ht.mono (fun k hk=>?_),fun k hk=>?_⟩⟩
 ·rw [ht.block _ (lt_of_block H.blk) (ty H.blk (by decide))];exact H.blk
 ·refine H.it.turned ht (fun k hk=>?_)
  rcases hk with rfl | ⟨c,hc,hk⟩
  ·exact ty H.it.cell (by decide)
  ·rcases (H.it.row c hc).2 with ⟨e1,_⟩ | ⟨r,cap,cur2,e1,_,hr2,_⟩
   ·rw [e1] at hk;cases hk
   ·rw [e1] at hk
    have:r = k:=by simpa [Value.ownBlock] using hk
    rw [this] at hr2
    exact ty hr2 (by decide)
 ·refine H.dk.turned ht (ty H.dk.cell (by decide)) (fun k hk=>?_)
  obtain ⟨g,cap,cur2,fz2,e1,_,hg,_⟩:=H.dk.row
  rw [e1] at hk
  have:g = k:=by simpa [Value.ownBlock] using hk
  rw [this] at hg
  exact ty hg (by decide)
 ·rcases hk with rfl | hk
  ·exact .inr (.inl rfl)
  ·exact .inr (.inr (.inl hk))
 ·rcases hk with rfl | rfl | ⟨i,hi,rfl | rfl | hk⟩ | hk
  ·exact .inl (.inl rfl)
  ·exact .inl (.inr (.inl rfl))
  ·exact .inl (.inr (.inr (.inl ⟨i,hi,.inl rfl⟩)))
  ·exact .inl (.inr (.inr (.inl ⟨i,hi,.inr (.inl rfl)⟩)))
  ·rcases hs.new i hi k hk with h1 | h1
   ·exact .inl (.inr (.inr (.inl ⟨i,hi,.inr (.inr h1)⟩)))
   ·exact .inr h1
  ·exact .inl (.inr (.inr (.inr hk)))
theorem Ven.take {qv':Nat→Value} {t':Nat} {Q':Nat→List Ask} (H:Ven w W B X wd h seed S) (hi:Itk W' w.heap.size B.q qv' t' Q') (hs:QStep W W' B.q X.qv qv') :
  Ven w W' B { X with qv:=qv' } wd h seed { S with Q:=Q',t:=t' }∧VStep W W' B X { X with qv:=qv' }:=by
 have ht:=hs.turned
 have ty:∀ {k:Nat} {cur:Array Value} {e:TypeId} {fz:Nat × Nat},W.heap[k]? = some (.cells cur e fz)→e≠174∧e≠45→¬ qown B.q X.qv k:=fun {k cur e fz} hk he=>by
  rintro (rfl | ⟨c,hc,h1⟩)
  ·exact blkT hk H.it.cell he.1 rfl
  ·rcases (H.it.row c hc).2 with ⟨e1,_⟩ | ⟨r,cap,cur2,e1,_,hr2,_⟩
   ·rw [e1] at h1;cases h1
   ·rw [e1] at h1
    have:r = k:=by simpa [Value.ownBlock] using h1
    rw [this,hk] at hr2
    simp at hr2
    exact he.2 hr2.2.1
 have tr:∀ {i:Nat},i < 3→∀ k,(X.v i).ownBlock = some k→¬ qown B.q X.qv k:=fun {i} hi k hk=>by
  rcases (H.fl.bk i hi).row.2 with ⟨e1,_⟩ | ⟨r,cap,cur2,e1,_,hr2,_⟩
  ·rw [e1] at hk;cases hk
  ·rw [e1] at hk
   have:r = k:=by simpa [Value.ownBlock] using hk
   rw [this] at hr2
   exact ty hr2 (by decide)
 refine ⟨⟨?_,?_,hi,?_,H.lo⟩,⟨ht.mono (fun k hk=>.inr (.inr (.inr (.inl hk)))),fun k hk=>?_⟩⟩
 ·rw [ht.block _ (lt_of_block H.blk) (ty H.blk (by decide))];exact H.blk
 ·exact H.fl.turned ht (ty H.fl.blk (by decide)) (ty H.fl.pu (by decide)) (fun i hi=>⟨ty (H.fl.it i hi) (by decide),ty (H.fl.bk i hi).cell (by decide),tr hi⟩) (fun k hk=>(H.it.own_lt hk).1)
 ·refine H.dk.turned ht (ty H.dk.cell (by decide)) (fun k hk=>?_)
  obtain ⟨g,cap,cur2,fz2,e1,_,hg,_⟩:=H.dk.row
  rw [e1] at hk
  have:g = k:=by simpa [Value.ownBlock] using hk
  rw [this] at hg
  exact ty hg (by decide)
 ·rcases hk with rfl | rfl | hk | hk | hk
  ·exact .inl (.inl rfl)
  ·exact .inl (.inr (.inl rfl))
  ·exact .inl (.inr (.inr (.inl hk)))
  ·rcases hs.new k hk with h1 | h1
   ·exact .inl (.inr (.inr (.inr (.inl h1))))
   ·exact .inr h1
  ·exact .inl (.inr (.inr (.inr (.inr hk))))
theorem Ven.tape {dv':Value} {tp':List UInt8} {cut':Bool} {left':Nat} (H:Ven w W B X wd h seed S) (hd:Dsk W' w.heap.size B.d dv' tp' cut' left') (ht:Turned W W' (fun k=>k = B.d∨X.dv.ownBlock = some k)) (hn:∀ k,dv'.ownBlock = some k→X.dv.ownBlock = some k∨W.heap.size≤k) :
  Ven w W' B { X with dv:=dv' } wd h seed { S with tp:=tp',cut:=cut',left:=left' }∧VStep W W' B X { X with dv:=dv' }:=by
 have ty:∀ {k:Nat} {cur:Array Value} {e:TypeId} {fz:Nat × Nat},W.heap[k]? = some (.cells cur e fz)→e≠142∧e≠5→¬ (k = B.d∨X.dv.ownBlock = some k):=fun {k cur e fz} hk he=>by
  rintro (rfl | h1)
  ·exact blkT hk H.dk.cell he.1 rfl
  ·exact H.dk.row.ne_type hk he.2 h1
 have tr:∀ {i:Nat},i < 3→∀ k,(X.v i).ownBlock = some k→¬ (k = B.d∨X.dv.ownBlock = some k):=fun {i} hi k hk=>by
  rcases (H.fl.bk i hi).row.2 with ⟨e1,_⟩ | ⟨r,cap,cur2,e1,_,hr2,_⟩
  ·rw [e1] at hk;cases hk
  ·rw [e1] at hk
   have:r = k:=by simpa [Value.ownBlock] using hk
   rw [this] at hr2
   exact ty hr2 (by decide)
 have hlo:∀ k,(k = B.d∨X.dv.ownBlock = some k)→w.heap.size≤k:=fun k hk=>by
  rcases hk with rfl | hk
  ·exact H.dk.lo
  ·exact (H.dk.row.lt k hk).1
 refine ⟨⟨?_,?_,?_,hd,H.lo⟩,⟨ht.mono (fun k hk=>?_),fun k hk=>?_⟩⟩
 ·rw [ht.block _ (lt_of_block H.blk) (ty H.blk (by decide))];exact H.blk
 ·exact H.fl.turned ht (ty H.fl.blk (by decide)) (ty H.fl.pu (by decide)) (fun i hi=>⟨ty (H.fl.it i hi) (by decide),ty (H.fl.bk i hi).cell (by decide),tr hi⟩) hlo
 ·refine H.it.turned ht (fun k hk=>?_)
  rcases hk with rfl | ⟨c,hc,hk⟩
  ·exact ty H.it.cell (by decide)
  ·rcases (H.it.row c hc).2 with ⟨e1,_⟩ | ⟨r,cap,cur2,e1,_,hr2,_⟩
   ·rw [e1] at hk;cases hk
   ·rw [e1] at hk
    have:r = k:=by simpa [Value.ownBlock] using hk
    rw [this] at hr2
    exact ty hr2 (by decide)
 ·rcases hk with rfl | hk
  ·exact .inr (.inr (.inr (.inr (.inl rfl))))
  ·exact .inr (.inr (.inr (.inr (.inr hk))))
 ·rcases hk with rfl | rfl | hk | hk | rfl | hk
  ·exact .inl (.inl rfl)
  ·exact .inl (.inr (.inl rfl))
  ·exact .inl (.inr (.inr (.inl hk)))
  ·exact .inl (.inr (.inr (.inr (.inl hk))))
  ·exact .inl (.inr (.inr (.inr (.inr (.inl rfl)))))
  ·rcases hn k hk with h1 | h1
   ·exact .inl (.inr (.inr (.inr (.inr (.inr h1)))))
   ·exact .inr h1
theorem Ven.own {S':Ve.St} (H:Ven w W B X wd h seed S) (hs:Save W W' B.V) (hb:W'.heap[B.V]? = some (.cells (vRow B seed S') 111 (0,0))) (e:S'.L = S.L∧S'.pf = S.pf∧S'.n = S.n∧S'.Q = S.Q∧S'.t = S.t∧S'.tp = S.tp∧S'.cut = S.cut∧S'.left = S.left):Ven w W' B X wd h seed S'∧VStep W W' B X X:=by
 have ht:Turned W W' (fun k=>k = B.V):=⟨hs.os,hs.tape,hs.output,hs.size,fun k hk hn=>hs.block k hk hn⟩
 have ty:∀ {k:Nat} {cur:Array Value} {e:TypeId} {fz:Nat × Nat},W.heap[k]? = some (.cells cur e fz)→e≠111→k≠B.V:=fun hk he=>blkT hk H.blk he
 have tr:∀ {base:Nat} {e:TypeId} {s n:Nat} {v:Value} {xs:List Value},W.ownsRow base e s v n xs→e≠111→∀ k,v.ownBlock = some k→k≠B.V:=fun {base e s n v xs} hr he k hk=>by
  rcases hr.2 with ⟨e1,_⟩ | ⟨r,cap,cur2,e1,_,hr2,_⟩
  ·rw [e1] at hk;cases hk
  ·rw [e1] at hk
   have:r = k:=by simpa [Value.ownBlock] using hk
   rw [this] at hr2
   exact ty hr2 he
 obtain ⟨e1,e2,e3,e4,e5,e6,e7,e8⟩:=e
 refine ⟨⟨hb,?_,?_,?_,H.lo⟩,⟨ht.mono (fun k hk=>.inl hk),fun _ h=>.inl h⟩⟩
 ·rw [e1,e2,e3]
  exact H.fl.turned ht (ty H.fl.blk (by decide)) (ty H.fl.pu (by decide)) (fun i hi=>⟨ty (H.fl.it i hi) (by decide),ty (H.fl.bk i hi).cell (by decide),tr (H.fl.bk i hi).row (by decide)⟩) (fun k hk=>by subst hk;exact H.lo)
 ·rw [e4,e5]
  refine H.it.turned ht (fun k hk=>?_)
  rcases hk with rfl | ⟨c,hc,hk⟩
  ·exact ty H.it.cell (by decide)
  ·exact tr (H.it.row c hc) (by decide) k hk
 ·rw [e6,e7,e8]
  refine H.dk.turned ht (ty H.dk.cell (by decide)) (fun k hk e=>?_)
  exact H.dk.row.ne_type H.blk (by decide) (by rw [hk,e])
theorem Ven.at (H:Ven w W B X wd h seed S) (k:Nat):W.cell? ⟨B.V,k,none⟩ = (vRow B seed S)[k]?:=cell_of_row W B.V k _ _ _ H.blk
theorem Ven.conn (H:Ven w W B X wd h seed S) {c j:Nat} (hc:c < 6) (hj:j < 5):W.cell? ⟨B.V,4 + c * 5 + j,none⟩ = some (cAt S c j):=by rw [H.at];exact vRow_conn B seed S hc hj
theorem Ven.free (H:Ven w W B X wd h seed S) (k:Nat):W.frozen? ⟨B.V,k,none⟩ = false:=by simp [World.frozen?,H.blk]
theorem Ven.lt (H:Ven w W B X wd h seed S):B.V < W.heap.size:=lt_of_block H.blk
theorem Ven.set {S':Ve.St} (H:Ven w W B X wd h seed S) {c j:Nat} (hc:c < 6) (hj:j < 5) (u:Value)
  (hS:∀ c' j',c' < 6→j' < 5→cAt S' c' j' = if c' = c∧j' = j then u else cAt S c' j') (hn:S'.now = S.now) (hbt:S'.bt = S.bt) (hd:S'.down = S.down) (e:S'.L = S.L∧S'.pf = S.pf∧S'.n = S.n∧S'.Q = S.Q∧S'.t = S.t∧S'.tp = S.tp∧S'.cut = S.cut∧S'.left = S.left) :
  Ven w (W.setCell ⟨B.V,4 + c * 5 + j,none⟩ u) B X wd h seed S'∧VStep W (W.setCell ⟨B.V,4 + c * 5 + j,none⟩ u) B X X :=
 H.own (Save.setCell _ _ _ _) (by rw [block_setCell H.blk,vRow_set B seed S S' hc hj u hS hn hbt hd]) e
end
end Go.Proofs.YtidahfhingdlmaaGreatDoor
