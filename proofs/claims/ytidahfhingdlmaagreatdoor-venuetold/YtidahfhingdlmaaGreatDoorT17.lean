/- A floor of package batch in memory: three items with their books and bands, a purse; what an act may turn. -/
import Derived.Test.YtidahfhingdlmaaGreatDoorT06
import Derived.Test.YtidahfhingdlmaaGreatDoorT14
import Derived.Test.YtidahfhingdlmaaGreatDoorT16
import Derived.Test.YtidahfhingdlmaaGreatDoorT09
import Derived.Test.YtidahfhingdlmaaGreatDoorT08
import Derived.BigRegion
import Derived.BigQuiet
import Derived.Test.YtidahfhingdlmaaGreatDoorT03
namespace Go.Proofs.YtidahfhingdlmaaGreatDoor
open Go.RowKit
set_option maxRecDepth 100000
structure AEr (w:World) (ev:Nat→Value):Prop where
 c1:w.cell? ⟨1,0,none⟩ = some (.iface 362 (ev 1))
 c2:w.cell? ⟨3,0,none⟩ = some (.iface 362 (ev 2))
 c3:w.cell? ⟨5,0,none⟩ = some (.iface 362 (ev 3))
 c5:w.cell? ⟨7,0,none⟩ = some (.iface 362 (ev 5))
 c6:w.cell? ⟨8,0,none⟩ = some (.iface 362 (ev 6))
 c7:w.cell? ⟨4,0,none⟩ = some (.iface 362 (ev 7))
 c9:w.cell? ⟨9,0,none⟩ = some (.iface 362 (ev 9))
 c11:w.cell? ⟨11,0,none⟩ = some (.iface 362 (ev 11))
section
variable {w w':World} {ev:Nat→Value}
theorem AEr.below (h:AEr w ev) (hb:Below w.heap.size w w'):AEr w' ev:=⟨cell_later hb h.c1,cell_later hb h.c2,cell_later hb h.c3,cell_later hb h.c5,cell_later hb h.c6,cell_later hb h.c7,cell_later hb h.c9,cell_later hb h.c11⟩
theorem AEr.er (h:AEr w ev):Er w 362 (ev 1) (ev 6) (ev 7):=⟨h.c1,h.c6,h.c7⟩
theorem AEr.er4 (h:AEr w ev):Er4 w 362 (ev 1) (ev 5) (ev 6) (ev 7):=⟨h.er,h.c5⟩
theorem AEr.per (h:AEr w ev):PEr w ev:=⟨h.er,h.c9⟩
theorem AEr.ter (h:AEr w ev):TEr w ev:=⟨h.per,h.c2,h.c11⟩
theorem AEr.ber (h:AEr w ev):BEr w 362 (ev 1):=⟨h.c1⟩
end
def pfloorA (I:Nat→Nat) (P:Nat) (wd h:Int):Array Value :=
 #[.int .i64 wd,.int .i64 h,.pointer (some ⟨I 0,0,none⟩),.pointer (some ⟨I 1,0,none⟩),.pointer (some ⟨I 2,0,none⟩),.pointer (some ⟨P,0,none⟩)]
def itemA (b:Nat) (r l:Int):Array Value:=#[.pointer (some ⟨b,0,none⟩),.int .i64 r,.int .i64 l]
structure PFl (w W:World) (F P:Nat) (I b:Nat→Nat) (v:Nat→Value) (L:Nat→List Cv.Lot) (pf n:Nat→Int) (wd h:Int):Prop where
 blk:W.heap[F]? = some (.cells (pfloorA I P wd h) 128 (0,0))
 it:∀ i,i < 3→W.heap[I i]? = some (.cells (itemA (b i) (n (i * 2)) (n (i * 2 + 1))) 134 (0,0))
 bk:∀ i,i < 3→Book W w.heap.size (b i) (v i) (L i)
 neI:∀ i j,i < 3→j < 3→i≠j→I i≠I j
 ne:∀ i j,i < 3→j < 3→i≠j→b i≠b j
 ap:∀ i j,i < 3→j < 3→i≠j→∀ k,(v i).ownBlock = some k→(v j).ownBlock≠some k
 pu:Purse W 131 P pf
 lo:w.heap.size≤F
 lop:w.heap.size≤P
 loI:∀ i,i < 3→w.heap.size≤I i
 bl:Below w.heap.size w W
structure FStep (W W':World) (P:Nat) (I b:Nat→Nat) (v v':Nat→Value):Prop where
 os:W'.os = W.os
 tape:W'.tape = W.tape
 output:W'.output = W.output
 size:W.heap.size≤W'.heap.size
 keep:∀ k,k < W.heap.size→k≠P→(∀ i,i < 3→k≠I i∧k≠b i∧(v i).ownBlock≠some k)→W'.heap[k]? = W.heap[k]?
 new:∀ i,i < 3→∀ k,(v' i).ownBlock = some k→(v i).ownBlock = some k∨W.heap.size≤k
section
variable {W W' W1 W2:World} {P:Nat} {I b:Nat→Nat} {v v' v1 v2:Nat→Value}
theorem FStep.refl (W:World) (P:Nat) (I b:Nat→Nat) (v:Nat→Value):FStep W W P I b v v:=⟨rfl,rfl,rfl,Nat.le_refl _,fun _ _ _ _=>rfl,fun _ _ _ h=>.inl h⟩
theorem FStep.trans (h:FStep W W1 P I b v v1) (h1:FStep W1 W2 P I b v1 v2):FStep W W2 P I b v v2 :=
 ⟨h1.os.trans h.os,h1.tape.trans h.tape,h1.output.trans h.output,Nat.le_trans h.size h1.size,
  fun k hk hP hi=>by
   rw [h1.keep k (Nat.lt_of_lt_of_le hk h.size) hP fun i hi3=>⟨(hi i hi3).1,(hi i hi3).2.1,fun e=>?_⟩]
   · exact h.keep k hk hP hi
   · rcases h.new i hi3 k e with h2 | h2
     · exact (hi i hi3).2.2 h2
     · omega,
  fun i hi k e=>by
   rcases h1.new i hi k e with h2 | h2
   · exact h.new i hi k h2
   · exact .inr (Nat.le_trans h.size h2)⟩
theorem FStep.of_below (hb:Below W.heap.size W W') (P:Nat) (I b:Nat→Nat) (v:Nat→Value):FStep W W' P I b v v:=⟨hb.os,hb.tape,hb.output,hb.size,fun k hk _ _=>hb.block k hk,fun _ _ _ h=>.inl h⟩
theorem FStep.below (h:FStep W W1 P I b v v1) (hb:Below W1.heap.size W1 W2):FStep W W2 P I b v v1:=h.trans (FStep.of_below hb P I b v1)
theorem FStep.of_book {i:Nat} (hi:i < 3) {x:Value} (hs:Step W W' (b i) (v i) x) (P:Nat) (I:Nat→Nat):FStep W W' P I b v (upd v i x) :=
 ⟨hs.only.os,hs.only.tape,hs.only.output,hs.only.size,
  fun k hk _ hk2=>hs.only.block k hk (fun e=>(hk2 i hi).2.1 (by simpa using e)) (fun e=>(hk2 i hi).2.2 e.symm),
  fun j hj k e=>by
   by_cases hji:j = i
   · subst hji;rw [upd_same] at e;exact hs.new k e
   · rw [upd_ne _ _ hji] at e;exact .inl e⟩
theorem FStep.of_purse (hs:Save W W' P) (I b:Nat→Nat) (v:Nat→Value):FStep W W' P I b v v:=⟨hs.os,hs.tape,hs.output,hs.size,fun k hk hP _=>hs.block k hk hP,fun _ _ _ h=>.inl h⟩
theorem FStep.of_item {i:Nat} (hi:i < 3) (hs:Save W W' (I i)) (P:Nat) (b:Nat→Nat) (v:Nat→Value):FStep W W' P I b v v:=⟨hs.os,hs.tape,hs.output,hs.size,fun k hk _ h2=>hs.block k hk (h2 i hi).1,fun _ _ _ h=>.inl h⟩
end
section
variable {w W W':World} {F P:Nat} {I b:Nat→Nat} {v:Nat→Value} {L:Nat→List Cv.Lot} {pf n:Nat→Int} {wd h:Int}
theorem rowT {W:World} {base:Nat} {v:Value} {n:Nat} {xs:List Value} {q:Nat} {a:Array Value} {T:TypeId} {fz:Nat × Nat} (h:W.ownsRow base 137 5 v n xs) (hq:W.heap[q]? = some (.cells a T fz)) (hT:T≠137):v.ownBlock≠some q:=by
 intro e
 rcases h.2 with ⟨e1,_⟩ | ⟨r,cap,cur,e1,_,hr,_⟩
 ·rw [e1] at e;cases e
 ·rw [e1] at e
  have:r = q:=by simpa [Value.ownBlock] using e
  rw [this,hq] at hr
  simp only [Option.some.injEq,Obj.cells.injEq] at hr
  exact hT hr.2.1
theorem blkT {W:World} {p q:Nat} {a c:Array Value} {T U:TypeId} {fz fy:Nat × Nat} (hp:W.heap[p]? = some (.cells a T fz)) (hq:W.heap[q]? = some (.cells c U fy)) (hT:T≠U):p≠q:=by
 intro e
 rw [e,hq] at hp
 simp only [Option.some.injEq,Obj.cells.injEq] at hp
 exact hT hp.2.1.symm
theorem PFl.later (hf:PFl w W F P I b v L pf n wd h) (hb:Below W.heap.size W W'):PFl w W' F P I b v L pf n wd h :=
 ⟨by rw [hb.block F (lt_of_block hf.blk)];exact hf.blk,fun i hi=>by rw [hb.block _ (lt_of_block (hf.it i hi))];exact hf.it i hi,fun i hi=>(hf.bk i hi).later hb,hf.neI,hf.ne,hf.ap,hf.pu.lat hb,hf.lo,hf.lop,hf.loI,hf.bl.trans (hb.mono hf.bl.size)⟩
theorem PFl.cellI (hf:PFl w W F P I b v L pf n wd h) {i:Nat} (hi:i < 3):W.cell? ⟨F,2 + i,none⟩ = some (.pointer (some ⟨I i,0,none⟩)):=by
 rw [cell_of_row W F (2 + i) _ _ _ hf.blk]
 have:i = 0∨i = 1∨i = 2:=by omega
 rcases this with rfl | rfl | rfl <;> rfl
theorem PFl.cellP (hf:PFl w W F P I b v L pf n wd h):W.cell? ⟨F,5,none⟩ = some (.pointer (some ⟨P,0,none⟩)):=by
 rw [cell_of_row W F 5 _ _ _ hf.blk];rfl
theorem PFl.cellB (hf:PFl w W F P I b v L pf n wd h) {i:Nat} (hi:i < 3):W.cell? ⟨I i,0,none⟩ = some (.pointer (some ⟨b i,0,none⟩)):=by
 rw [cell_of_row W (I i) 0 _ _ _ (hf.it i hi)];rfl
theorem PFl.cellR (hf:PFl w W F P I b v L pf n wd h) {i:Nat} (hi:i < 3):W.cell? ⟨I i,1,none⟩ = some (.int .i64 (n (i * 2))):=by
 rw [cell_of_row W (I i) 1 _ _ _ (hf.it i hi)];rfl
theorem PFl.lt (hf:PFl w W F P I b v L pf n wd h):F < W.heap.size:=lt_of_block hf.blk
theorem PFl.er (hf:PFl w W F P I b v L pf n wd h) {ev:Nat→Value} (he:AEr w ev):AEr W ev:=he.below hf.bl
theorem PFl.book (hf:PFl w W F P I b v L pf n wd h) {i:Nat} (hi:i < 3) {v':Value} {L':List Cv.Lot} (hb:Book W' w.heap.size (b i) v' L') (hs:Step W W' (b i) (v i) v'):PFl w W' F P I b (upd v i v') (upd L i L') pf n wd h:=by
 have hbi:=hf.bk i hi
 have other:∀ {q:Nat} {a:Array Value} {T:TypeId},W.heap[q]? = some (.cells a T (0,0))→T≠137→T≠139→W'.heap[q]? = some (.cells a T (0,0)):=fun {q a T} hq h1 h2=>by
  rw [hs.only.block q (lt_of_block hq) (fun e=>?_) (fun e=>rowT hbi.row hq h1 e.symm)]
  ·exact hq
  ·have:q = b i:=by simpa using e
   exact blkT hq hbi.cell h2 this
 refine ⟨other hf.blk (by decide) (by decide),fun j hj=>other (hf.it j hj) (by decide) (by decide),fun j hj=>?_,hf.neI,hf.ne,fun j k hj hk hjk m hm=>?_,other hf.pu (by decide) (by decide),hf.lo,hf.lop,hf.loI,hf.bl.trans (hs.below hbi _ (Nat.le_refl _))⟩
 ·by_cases hji:j = i
  ·subst hji;rw [upd_same,upd_same];exact hb
  ·rw [upd_ne _ _ hji,upd_ne _ _ hji]
   refine (hf.bk j hj).only hs.only (by simp;exact hf.ne j i hj hi hji) (fun e=>rowT hbi.row (hf.bk j hj).cell (by decide) e.symm) (fun k hk e=>?_) (fun k hk e=>hf.ap j i hj hi hji k hk e.symm)
   have:k = b i:=by simpa using e
   subst this
   exact rowT (hf.bk j hj).row hbi.cell (by decide) hk
 ·by_cases hji:j = i
  ·subst hji
   rw [upd_same] at hm
   rw [upd_ne _ _ (Ne.symm hjk)]
   rcases hs.new m hm with h1 | h1
   ·exact hf.ap j k hj hk hjk m h1
   ·intro e
    have:=((hf.bk k hk).rowLt m e).2
    omega
  ·rw [upd_ne _ _ hji] at hm
   by_cases hki:k = i
   ·subst hki
    rw [upd_same]
    intro e
    rcases hs.new m e with h1 | h1
    ·exact hf.ap j k hj hk hjk m hm h1
    ·have:=((hf.bk j hj).rowLt m hm).2
     omega
   ·rw [upd_ne _ _ hki];exact hf.ap j k hj hk hjk m hm
theorem Save.to_only {W W':World} {q:Nat} (hs:Save W W' q):Only W W' (some q) none:=⟨hs.os,hs.tape,hs.output,hs.size,fun k hk h1 _=>hs.block k hk (fun e=>h1 (by rw [e]))⟩
theorem PFl.purse (hf:PFl w W F P I b v L pf n wd h) {f':Nat→Int} (hp:Purse W' 131 P f') (hs:Save W W' P):PFl w W' F P I b v L f' n wd h:=by
 refine ⟨by rw [hs.block F (lt_of_block hf.blk) (blkT hf.blk hf.pu (by decide))];exact hf.blk,fun i hi=>by rw [hs.block _ (lt_of_block (hf.it i hi)) (blkT (hf.it i hi) hf.pu (by decide))];exact hf.it i hi,fun i hi=>?_,hf.neI,hf.ne,hf.ap,hp,hf.lo,hf.lop,hf.loI,hf.bl.trans (hs.below hf.bl.size hf.lop)⟩
 exact (hf.bk i hi).only hs.to_only (by simp;exact blkT (hf.bk i hi).cell hf.pu (by decide)) (by simp) (fun k hk e=>by
  have:k = P:=by simpa using e
  subst this
  exact rowT (hf.bk i hi).row hf.pu (by decide) hk) (fun _ _=>by simp)
theorem PFl.band (hf:PFl w W F P I b v L pf n wd h) {i:Nat} (hi:i < 3) {r l:Int} (hit:W'.heap[I i]? = some (.cells (itemA (b i) r l) 134 (0,0))) (hs:Save W W' (I i)):PFl w W' F P I b v L pf (upd (upd n (i * 2) r) (i * 2 + 1) l) wd h:=by
 refine ⟨by rw [hs.block F (lt_of_block hf.blk) (blkT hf.blk (hf.it i hi) (by decide))];exact hf.blk,fun j hj=>?_,fun j hj=>?_,hf.neI,hf.ne,hf.ap,hf.pu.save hs (blkT hf.pu (hf.it i hi) (by decide)),hf.lo,hf.lop,hf.loI,hf.bl.trans (hs.below hf.bl.size (hf.loI i hi))⟩
 ·by_cases e:j = i
  ·subst e
   rw [upd_same,upd_ne _ _ (by omega),upd_same];exact hit
  ·rw [upd_ne _ _ (by omega),upd_ne _ _ (by omega),upd_ne _ _ (by omega),upd_ne _ _ (by omega),hs.block _ (lt_of_block (hf.it j hj)) (hf.neI j i hj hi e)]
   exact hf.it j hj
 ·exact (hf.bk j hj).only hs.to_only (by simp;exact blkT (hf.bk j hj).cell (hf.it i hi) (by decide)) (by simp) (fun k hk e=>by
   have:k = I i:=by simpa using e
   subst this
   exact rowT (hf.bk j hj).row (hf.it i hi) (by decide) hk) (fun _ _=>by simp)
theorem PFl.aside (hf:PFl w W F P I b v L pf n wd h) {q:Nat} (h1:q≠F) (h2:q≠P) (h3:∀ i,i < 3→q≠I i∧q≠b i∧(v i).ownBlock≠some q) (hlo:w.heap.size≤q) (hs:Save W W' q):PFl w W' F P I b v L pf n wd h:=by
 refine ⟨by rw [hs.block F (lt_of_block hf.blk) (Ne.symm h1)];exact hf.blk,fun i hi=>by rw [hs.block _ (lt_of_block (hf.it i hi)) (Ne.symm (h3 i hi).1)];exact hf.it i hi,fun i hi=>?_,hf.neI,hf.ne,hf.ap,hf.pu.save hs (Ne.symm h2),hf.lo,hf.lop,hf.loI,hf.bl.trans (hs.below hf.bl.size hlo)⟩
 exact (hf.bk i hi).only hs.to_only (by simp;exact Ne.symm (h3 i hi).2.1) (by simp) (fun k hk e=>by
  have:k = q:=by simpa using e
  subst this
  exact (h3 i hi).2.2 hk) (fun _ _=>by simp)
end
def OwnL (w:World) (g:Nat) (v:Value) (l:List Cv.Lot):Prop :=
 (l = []∧∃ a cap,v = .slice a 0 cap)∨∃ o cap cur,v = .slice (some ⟨g,o,none⟩) l.length cap∧l.length≤cap∧LotsAt w g o l∧w.heap[g]? = some (.cells cur 137 (0,0))
theorem OwnL.save {w w':World} {g p:Nat} {v:Value} {l:List Cv.Lot} (h:OwnL w g v l) (hs:Save w w' p) (hne:g≠p):OwnL w' g v l:=by
 rcases h with h | ⟨o,cap,cur,h1,h2,h3,h4⟩
 ·exact .inl h
 ·refine .inr ⟨o,cap,cur,h1,h2,fun i hi=>?_,by rw [hs.block g (lt_of_block h4) hne];exact h4⟩
  obtain ⟨c0,c1,c2,c3,c4⟩:=h3 i hi
  exact ⟨cell_save hs c0 hne,cell_save hs c1 hne,cell_save hs c2 hne,cell_save hs c3 hne,cell_save hs c4 hne⟩
theorem OwnL.of_row {w:World} {base:Nat} {v:Value} {l:List Cv.Lot} (h:w.ownsRow base 137 5 v l.length (flat l)):∃ g,OwnL w g v l∧(l = []∨(base≤g∧v.ownBlock = some g)):=by
 rcases h.2 with ⟨e,e2⟩ | ⟨g,cap,cur,e,hg,hgg,hle,_,_,_⟩
 ·exact ⟨0,.inl ⟨List.eq_nil_of_length_eq_zero e2,none,0,e⟩,.inl (List.eq_nil_of_length_eq_zero e2)⟩
 ·refine ⟨g,.inr ⟨0,cap,cur,e,hle,lotsAt_of_flat fun j u hu=>?_,hgg⟩,.inr ⟨hg,by rw [e];rfl⟩⟩
  have:=World.ownsRow.cells h (g:=g) (by rw [e];rfl) j u hu
  have hp:(⟨g,0,none⟩:Addr).add j = ⟨g,j,none⟩:=by unfold Addr.add;split <;> simp_all
  rwa [hp] at this
theorem nth_cons_zero (x:Cv.Lot) (l:List Cv.Lot):Cv.nth (x :: l) 0 = x:=rfl
theorem nth_cons_succ (x:Cv.Lot) (l:List Cv.Lot) (i:Nat):Cv.nth (x :: l) (i + 1) = Cv.nth l i:=rfl
theorem OwnL.head {w:World} {g:Nat} {v:Value} {x:Cv.Lot} {l:List Cv.Lot} (h:OwnL w g v (x :: l)):∃ o cap cur,v = .slice (some ⟨g,o,none⟩) (l.length + 1) cap∧l.length + 1≤cap∧LotsAt w g o (x :: l)∧w.heap[g]? = some (.cells cur 137 (0,0)):=by
 rcases h with ⟨h,_⟩ | ⟨o,cap,cur,h1,h2,h3,h4⟩
 ·cases h
 ·exact ⟨o,cap,cur,h1,h2,h3,h4⟩
theorem lotsAt_head {w:World} {g o:Nat} {x:Cv.Lot} {l:List Cv.Lot} (h:LotsAt w g o (x :: l)):w.cell? ⟨g,o,none⟩ = some (.int .i64 x.id)∧w.cell? ⟨g,o + 1,none⟩ = some (.int .i64 x.ow)∧w.cell? ⟨g,o + 2,none⟩ = some (.int .i64 x.sd)∧w.cell? ⟨g,o + 3,none⟩ = some (.int .i64 x.pr)∧w.cell? ⟨g,o + 4,none⟩ = some (.int .i64 x.q):=by
 have:=h 0 (by simp)
 simpa [nth_cons_zero] using this
theorem lotsAt_set {w:World} {g o:Nat} {x:Cv.Lot} {l:List Cv.Lot} {cur:Array Value} (h:LotsAt w g o (x :: l)) (hg:w.heap[g]? = some (.cells cur 137 (0,0))) (q:Int) :
  LotsAt (w.setCell ⟨g,o + 4,none⟩ (.int .i64 (x.q - q))) g o (Bk.less x q :: l)∧LotsAt (w.setCell ⟨g,o + 4,none⟩ (.int .i64 (x.q - q))) g (o + 5) l∧∃ cur',(w.setCell ⟨g,o + 4,none⟩ (.int .i64 (x.q - q))).heap[g]? = some (.cells cur' 137 (0,0)):=by
 have he:∀ j,j≠o + 4→(w.setCell ⟨g,o + 4,none⟩ (.int .i64 (x.q - q))).cell? ⟨g,j,none⟩ = w.cell? ⟨g,j,none⟩:=fun j hj=>by
  rw [setCell_eq_setRow w g (o + 4) _ _ _ _ hg,cell_of_row _ g j _ _ _ (setRow_heap w g _ _ _ _ hg),cell_of_row w g j _ _ _ hg,Array.getElem?_setIfInBounds_ne (by omega)]
 have hs:(w.setCell ⟨g,o + 4,none⟩ (.int .i64 (x.q - q))).cell? ⟨g,o + 4,none⟩ = some (.int .i64 (x.q - q)):=by
  have hc:=(lotsAt_head h).2.2.2.2
  rw [cell_of_row w g (o + 4) _ _ _ hg] at hc
  have hlt:o + 4 < cur.size:=by
   rcases Nat.lt_or_ge (o + 4) cur.size with h' | h'
   ·exact h'
   ·rw [Array.getElem?_eq_none h'] at hc;cases hc
  rw [setCell_eq_setRow w g (o + 4) _ _ _ _ hg,cell_of_row _ g (o + 4) _ _ _ (setRow_heap w g _ _ _ _ hg),Array.getElem?_setIfInBounds_self_of_lt hlt]
 have htail:∀ i,i < l.length→w.cell? ⟨g,o + (i + 1) * 5,none⟩ = some (.int .i64 (Cv.nth l i).id)∧w.cell? ⟨g,o + (i + 1) * 5 + 1,none⟩ = some (.int .i64 (Cv.nth l i).ow)∧w.cell? ⟨g,o + (i + 1) * 5 + 2,none⟩ = some (.int .i64 (Cv.nth l i).sd)∧w.cell? ⟨g,o + (i + 1) * 5 + 3,none⟩ = some (.int .i64 (Cv.nth l i).pr)∧w.cell? ⟨g,o + (i + 1) * 5 + 4,none⟩ = some (.int .i64 (Cv.nth l i).q):=fun i hi=>h (i + 1) (by simp;omega)
 refine ⟨fun i hi=>?_,fun i hi=>?_,?_⟩
 ·cases i with
  | zero =>
   obtain ⟨c0,c1,c2,c3,c4⟩:=lotsAt_head h
   rw [nth_cons_zero]
   refine ⟨?_,?_,?_,?_,?_⟩
   ·rw [show o + 0 * 5 = o by omega,he _ (by omega)];exact c0
   ·rw [show o + 0 * 5 + 1 = o + 1 by omega,he _ (by omega)];exact c1
   ·rw [show o + 0 * 5 + 2 = o + 2 by omega,he _ (by omega)];exact c2
   ·rw [show o + 0 * 5 + 3 = o + 3 by omega,he _ (by omega)];exact c3
   ·rw [show o + 0 * 5 + 4 = o + 4 by omega];exact hs
  | succ i =>
   obtain ⟨c0,c1,c2,c3,c4⟩:=htail i (by simp at hi;omega)
   rw [nth_cons_succ,he _ (by omega),he _ (by omega),he _ (by omega),he _ (by omega),he _ (by omega)]
   exact ⟨c0,c1,c2,c3,c4⟩
 ·obtain ⟨c0,c1,c2,c3,c4⟩:=htail i hi
  rw [show o + 5 + i * 5 = o + (i + 1) * 5 by omega,he _ (by omega),he _ (by omega),he _ (by omega),he _ (by omega),he _ (by omega)]
  exact ⟨c0,c1,c2,c3,c4⟩
 ·exact ⟨_,by rw [setCell_eq_setRow w g (o + 4) _ _ _ _ hg];exact setRow_heap w g _ _ _ _ hg⟩
set_option maxHeartbeats 1000000 in
theorem without_any (g:Nat) (v:Value) (x:Cv.Lot) (l:List Cv.Lot) (q:Int) (w:World) (hv:Hid (OwnL w g v (x :: l))) (h1:1≤x.q) (h2:x.q≤1000) (h3:1≤q) (h4:q≤1000) (hn:l.length≤1000) :
  Calls Tryz.prog 235 #[v,.int .i64 q] w fun e w'=>∃ v',e = .returned v'∧OwnL w' g v' (Fs.wo (x :: l) q)∧Save w w' g:=by
 obtain ⟨o,cap,cur,rfl,hcap,hl,hg⟩:=hv.out.head
 have hc:=(lotsAt_head hl).2.2.2.2
 obtain ⟨hL1,hL2,cur',hg'⟩:=lotsAt_set hl hg q
 have hfr:w.frozen? ⟨g,o + 4,none⟩ = false:=by simp [World.frozen?,hg]
 have hc':(w.setCell ⟨g,o + 4,none⟩ (.int .i64 (x.q - q))).cell? ⟨g,o + 4,none⟩ = some (.int .i64 (x.q - q)):=by
  have:=(lotsAt_head hL1).2.2.2.2
  exact this
 have HSV:Hid (Save w (w.setCell ⟨g,o + 4,none⟩ (.int .i64 (x.q - q))) g):=Save.setCell _ _ _ _
 have HL1:=hide hL1;have HL2:=hide hL2;have HG:=hide hg'
 clear hl hg hL1 hL2 hg' hv
 generalize hW:w.setCell ⟨g,o + 4,none⟩ (.int .i64 (x.q - q)) = W at *
 have HW:=hide hW
 clear hW
 have hpos:(0:Int) < ((l.length + 1:Nat):Int):=by omega
 generalize hm:l.length = m at *
 have Hm:=hide hm
 clear hm
 by_cases he:x.q - q = 0
 ·have HWO:Hid (Fs.wo (x :: l) q = l):=by show _ = _;rw [Fs.wo_cons,if_pos he]
  rw [he] at HW
  by_cases hcp:cap = 1
  ·subst hcp
   have hm0:m = 0:=by omega
   subst hm0
   go_enter Tryz.func235,Tryz.ntmps235
   go_wp2
   go_ret
   rw [HW.out]
   refine ⟨_,rfl,?_,HSV.out⟩
   rw [HWO.out]
   exact .inl ⟨List.eq_nil_of_length_eq_zero Hm.out,_,_,rfl⟩
  ·have h1m:(1:Int)≤((m + 1:Nat):Int):=by omega
   go_enter Tryz.func235,Tryz.ntmps235
   go_wp2
   go_ret
   rw [HW.out]
   refine ⟨_,rfl,?_,HSV.out⟩
   rw [HWO.out]
   refine .inr ⟨o + 5,cap - 1,cur',?_,by rw [Hm.out];omega,HL2.out,HG.out⟩
   rw [Hm.out]
   rfl
 ·have HWO:Hid (Fs.wo (x :: l) q = Bk.less x q :: l):=by show _ = _;rw [Fs.wo_cons,if_neg he]
  go_enter Tryz.func235,Tryz.ntmps235
  go_wp2
  go_ret
  rw [HW.out]
  refine ⟨_,rfl,?_,HSV.out⟩
  rw [HWO.out]
  exact .inr ⟨o,cap,cur',by simp [Hm.out],by simp [Hm.out];omega,HL1.out,HG.out⟩
def lenV:Value→Nat
 | .slice _ n _=>n
 | _=>0
theorem OwnL.len {w:World} {g:Nat} {v:Value} {l:List Cv.Lot} (h:OwnL w g v l):lenV v = l.length:=by
 rcases h with ⟨rfl,a,cap,rfl⟩ | ⟨o,cap,cur,rfl,_⟩ <;> rfl
theorem OwnL.val {w:World} {g:Nat} {v:Value} {l:List Cv.Lot} (h:OwnL w g v l):∃ a cap,v = .slice a l.length cap:=by
 rcases h with ⟨rfl,a,cap,rfl⟩ | ⟨o,cap,cur,rfl,_⟩
 ·exact ⟨a,cap,rfl⟩
 ·exact ⟨_,_,rfl⟩
theorem wo_len {x:Cv.Lot} {l:List Cv.Lot} {q:Int}:(Fs.wo (x :: l) q).length = if x.q - q = 0 then l.length else l.length + 1:=by
 rw [Fs.wo_cons];split <;> simp
structure TR (w:World) (B p gb gs i:Nat) (price:Int) (G f0:Nat→Int) (vb vs:Value) (wr:World):Prop where
 ex:∃ f bs ss,OwnL wr gb vb bs∧OwnL wr gs vs ss∧Purse wr 131 p f∧Fs.TI i price G f bs ss∧bs.length≤200∧ss.length≤200∧Pu.cashes f 6 = Pu.cashes f0 6∧∀ k,k < 3→Pu.stocks f k 6 = Pu.stocks f0 k 6
 bl:Below B w wr
theorem OwnL.blk {w:World} {g:Nat} {v:Value} {x:Cv.Lot} {l:List Cv.Lot} (h:OwnL w g v (x :: l)) {p:Nat} {f:Nat→Int} (hp:Purse w 131 p f):g≠p:=by
 obtain ⟨o,cap,cur,_,_,_,hg⟩:=h.head
 exact blkT hg hp (by decide)
set_option maxHeartbeats 1000000 in
theorem trades_any (p i B gb gs:Nat) (price:Int) (vb vs:Value) (bs ss:List Cv.Lot) (f G:Nat→Int) (ev:Nat→Value) (w:World) (hi:i < 3) (hp1:1≤price) (hp2:price≤1000) (he:Hid (∀ W,Below B w W→AEr W ev))
  (hB:Hid (B≤w.heap.size∧B≤p∧B≤gb∧B≤gs)) (hne:Hid (gb≠gs)) (hob:Hid (OwnL w gb vb bs)) (hos:Hid (OwnL w gs vs ss)) (hpu:Hid (Purse w 131 p f)) (hti:Hid (Fs.TI i price G f bs ss)) (hlb:Hid (bs.length≤200)) (hls:Hid (ss.length≤200)) :
  Calls Tryz.prog 201 #[.pointer (some ⟨p,0,none⟩),.int .i64 i,.int .i64 price,vb,vs] w fun e w'=>e = .returned .nilIface∧(Purse w' 131 p G∧Pu.Good G∧Pu.cashes G 6 = Pu.cashes f 6∧∀ k,k < 3→Pu.stocks G k 6 = Pu.stocks f k 6)∧Below B w w':=by
 have HR:Hid (TR w B p gb gs i price G f vb vs w):=⟨⟨f,bs,ss,hob.out,hos.out,hpu.out,hti.out,hlb.out,hls.out,rfl,fun _ _=>rfl⟩,Below.refl _ _⟩
 clear hob hos hpu hti hlb hls
 go_enter Tryz.func201,Tryz.ntmps201
 go_wp2
 go_loopw [3,4] (fun u x wr=>TR w B p gb gs i price G f u x wr) (fun u x _=>lenV u + lenV x)
 case atStart=>exact HR.out
 case round =>
  rename_i ub us wr
  obtain ⟨⟨f1,b1,s1,hb1,hs1,hpu1,hti1,hlb1,hls1,hca1,hst1⟩,hbl⟩:=hrel
  have HB1:=hide hb1;have HS1:=hide hs1;have HP1:=hide hpu1;have HT1:=hide hti1;have HLB:=hide hlb1;have HLS:=hide hls1;have HCA:=hide hca1;have HST:=hide hst1;have HBL:=hide hbl
  clear hb1 hs1 hpu1 hti1 hlb1 hls1 hca1 hst1 hbl HR
  have done:(b1 = []∨s1 = [])→f1 = G:=fun h=>funext (HT1.out.done h)
  have HD:=hide done
  clear done
  cases b1 with
  | nil =>
   obtain ⟨ab,cb,rfl⟩:=HB1.out.val
   obtain ⟨as',cs,rfl⟩:=HS1.out.val
   have e:=HD.out (.inl rfl)
   subst e
   rw [show ([]:List Cv.Lot).length = 0 from rfl]
   go_wp2
   go_ret
   exact ⟨rfl,⟨HP1.out,HT1.out.good,HCA.out,HST.out⟩,HBL.out⟩
  | cons x bt =>
   cases s1 with
   | nil =>
    obtain ⟨ob,cb,curb,rfl,hcb,hLb,hgb⟩:=HB1.out.head
    obtain ⟨as',cs,rfl⟩:=HS1.out.val
    have e:=HD.out (.inr rfl)
    subst e
    rw [show ([]:List Cv.Lot).length = 0 from rfl]
    have hpos:(0:Int) < ((bt.length + 1:Nat):Int):=by omega
    generalize bt.length = m at *
    go_wp2
    go_ret
    exact ⟨rfl,⟨HP1.out,HT1.out.good,HCA.out,HST.out⟩,HBL.out⟩
   | cons y st =>
    obtain ⟨ob,cb,curb,rfl,hcb,hLb,hgb⟩:=HB1.out.head
    obtain ⟨os,cs,curs,rfl,hcs,hLs,hgs⟩:=HS1.out.head
    obtain ⟨xb0,xb1,xb2,xb3,xb4⟩:=lotsAt_head hLb
    obtain ⟨ys0,ys1,ys2,ys3,ys4⟩:=lotsAt_head hLs
    have hposb:(0:Int) < ((bt.length + 1:Nat):Int):=by omega
    have hposs:(0:Int) < ((st.length + 1:Nat):Int):=by omega
    have hxq:=Cv.ok_bounds (Pu.well_ok (HT1.out.wb x (List.mem_cons_self ..)).1)
    have hyq:=Cv.ok_bounds (Pu.well_ok (HT1.out.ws y (List.mem_cons_self ..)).1)
    obtain ⟨qx1,qx2⟩:=hxq.2.2.2.2
    obtain ⟨qy1,qy2⟩:=hyq.2.2.2.2
    clear hxq hyq hLb hLs hgb hgs HD
    obtain ⟨mb,hmb⟩:∃ mb,bt.length = mb:=⟨_,rfl⟩
    obtain ⟨ms,hms⟩:∃ ms,st.length = ms:=⟨_,rfl⟩
    rw [hmb] at hposb hcb HB1 ⊢
    rw [hms] at hposs hcs HS1 ⊢
    have HMB:=hide hmb;have HMS:=hide hms
    clear hmb hms
    rcases Int.lt_or_le y.q x.q with hlt | hle
    ·have HQ:Hid (y.q = min x.q y.q):=by show _ = _;omega
     go_wp2_with fail
     refine region_quiet_tail 8 (by kernel_rfl) (by kernel_rfl) ?_
     simp only [List.take_succ_cons,List.take_zero,List.drop_succ_cons,List.drop_zero]
     repeat (first | go_big_quiet_step (fail) | quiet_step (fail))
     refine wpQuiet_nil ?_
     intro _ hw'
     obtain ⟨nq,hw''⟩:=hw'
     subst hw''
     have HBq:=hide (HBL.out.trans ((blw_drew nq:Below wr.heap.size wr (wr.drewN nq)).mono (Nat.le_trans hB.out.1 HBL.out.size)))
     have HB2:Hid (OwnL (wr.drewN nq) gb (.slice (some ⟨gb,ob,none⟩) (mb + 1) cb) (x :: bt)):=HB1.out
     have HS2:Hid (OwnL (wr.drewN nq) gs (.slice (some ⟨gs,os,none⟩) (ms + 1) cs) (y :: st)):=HS1.out
     have HP2:Hid (Purse (wr.drewN nq) 131 p f1):=HP1.out
     have xb0':(wr.drewN nq).cell? ⟨gb,ob,none⟩ = some (.int .i64 x.id):=xb0
     have xb1':(wr.drewN nq).cell? ⟨gb,ob + 1,none⟩ = some (.int .i64 x.ow):=xb1
     have xb2':(wr.drewN nq).cell? ⟨gb,ob + 2,none⟩ = some (.int .i64 x.sd):=xb2
     have xb3':(wr.drewN nq).cell? ⟨gb,ob + 3,none⟩ = some (.int .i64 x.pr):=xb3
     have xb4':(wr.drewN nq).cell? ⟨gb,ob + 4,none⟩ = some (.int .i64 x.q):=xb4
     have ys0':(wr.drewN nq).cell? ⟨gs,os,none⟩ = some (.int .i64 y.id):=ys0
     have ys1':(wr.drewN nq).cell? ⟨gs,os + 1,none⟩ = some (.int .i64 y.ow):=ys1
     have ys2':(wr.drewN nq).cell? ⟨gs,os + 2,none⟩ = some (.int .i64 y.sd):=ys2
     have ys3':(wr.drewN nq).cell? ⟨gs,os + 3,none⟩ = some (.int .i64 y.pr):=ys3
     have ys4':(wr.drewN nq).cell? ⟨gs,os + 4,none⟩ = some (.int .i64 y.q):=ys4
     clear HBL HB1 HS1 HP1 xb0 xb1 xb2 xb3 xb4 ys0 ys1 ys2 ys3 ys4
     generalize wr.drewN nq = w1 at *
     go_wp2_with fail
     refine region_quiet_tail 10 (by kernel_rfl) (by kernel_rfl) ?_
     simp only [List.take_succ_cons,List.take_zero,List.drop_succ_cons,List.drop_zero]
     repeat (first | go_big_quiet_step (fail) | quiet_step (fail))
     refine wpQuiet_nil ?_
     intro _ hw'
     obtain ⟨nq,hw''⟩:=hw'
     subst hw''
     have HBL:=hide (HBq.out.trans ((blw_drew nq:Below w1.heap.size w1 (w1.drewN nq)).mono (Nat.le_trans hB.out.1 HBq.out.size)))
     have HB3:Hid (OwnL (w1.drewN nq) gb (.slice (some ⟨gb,ob,none⟩) (mb + 1) cb) (x :: bt)):=HB2.out
     have HS3:Hid (OwnL (w1.drewN nq) gs (.slice (some ⟨gs,os,none⟩) (ms + 1) cs) (y :: st)):=HS2.out
     have HP3:Hid (Purse (w1.drewN nq) 131 p f1):=HP2.out
     clear HBq HB2 HS2 HP2 xb0' xb1' xb2' xb3' xb4' ys0' ys1' ys2' ys3' ys4'
     generalize w1.drewN nq = w2 at *
     obtain ⟨hC,hTI⟩:=HT1.out.step hi ⟨hp1,hp2⟩ HQ.out
     have hTR:=trade_any p i x y price y.q f1 ev w2 (he.out _ HBL.out).ter HP3.out HT1.out.good
     rw [hC] at hTR
     rw [show errE ev 0 = .nilIface from rfl] at hTR
     have hsum:=Pu.trade_sums f1 i x y price y.q
     have HTI:=hide hTI;have HTR:=hide hTR;have HSUM:=hide hsum
     have hgbp:=HB3.out.blk HP3.out
     have hgsp:=HS3.out.blk HP3.out
     have HGB:=hide hgbp;have HGS:=hide hgsp
     clear hC hTI hTR hsum hgbp hgsp
     unfold lotV at HTR
     go_wp2_with fail
     refine HTR.out.mono ?_
     rintro e w3 ⟨rfl,hp3,hs3⟩
     have HBL3:=hide (HBL.out.trans (hs3.below (Nat.le_trans hB.out.1 HBL.out.size) hB.out.2.1))
     have HP4:=hide hp3
     have HB4:=hide (HB3.out.save hs3 HGB.out)
     have HS4:=hide (HS3.out.save hs3 HGS.out)
     clear hp3 hs3 HTR HBL HB3 HS3 HP3
     generalize Pu.tradeF f1 i x y price y.q = f2 at *
     simp only []
     have hlb:=HLB.out
     have hls:=HLS.out
     simp only [List.length_cons] at hlb hls
     have HWb:=hide (without_any gb _ x bt y.q w3 HB4.out qx1 qx2 (by omega) (by omega) (by omega))
     go_wp2_with fail
     refine HWb.out.mono ?_
     rintro e w4 ⟨vb4,rfl,hb4,hs4⟩
     have HBL4:=hide (HBL3.out.trans (hs4.below (Nat.le_trans hB.out.1 HBL3.out.size) hB.out.2.2.1))
     have HP5:=hide (HP4.out.save hs4 (Ne.symm HGB.out))
     have HS5:=hide (HS4.out.save hs4 (Ne.symm hne.out))
     have HB5:=hide hb4
     clear hb4 hs4 HWb HBL3 HP4 HB4 HS4
     simp only []
     have HWs:=hide (without_any gs _ y st y.q w4 HS5.out qy1 qy2 (by omega) (by omega) (by omega))
     go_wp2_with fail
     refine HWs.out.mono ?_
     rintro e w5 ⟨vs5,rfl,hb5,hs5⟩
     have HBL5:=hide (HBL4.out.trans (hs5.below (Nat.le_trans hB.out.1 HBL4.out.size) hB.out.2.2.2))
     have HP6:=hide (HP5.out.save hs5 (Ne.symm HGS.out))
     have HB6:=hide (HB5.out.save hs5 hne.out)
     have HS6:=hide hb5
     clear hb5 hs5 HWs HBL4 HP5 HB5 HS5
     simp only []
     have hl1:=HB6.out.len
     have hl2:=HS6.out.len
     rw [wo_len] at hl1 hl2
     go_wp2_with fail
     refine ⟨⟨⟨f2,_,_,HB6.out,HS6.out,HP6.out,HTI.out,?_,?_,?_,?_⟩,HBL5.out⟩,?_⟩
     ·rw [wo_len];split <;> omega
     ·rw [wo_len];split <;> omega
     ·rw [HSUM.out.1];exact HCA.out
     ·intro k hk;rw [HSUM.out.2 k hk];exact HST.out k hk
     ·have hqq:=HQ.out
      show lenV vb4 + lenV vs5 < (mb + 1) + (ms + 1)
      rw [hl1,hl2,HMB.out,HMS.out]
      split <;> split <;> omega
    ·have HQ:Hid (x.q = min x.q y.q):=by show _ = _;omega
     go_wp2_with fail
     refine region_quiet_tail 8 (by kernel_rfl) (by kernel_rfl) ?_
     simp only [List.take_succ_cons,List.take_zero,List.drop_succ_cons,List.drop_zero]
     repeat (first | go_big_quiet_step (fail) | quiet_step (fail))
     refine wpQuiet_nil ?_
     intro _ hw'
     obtain ⟨nq,hw''⟩:=hw'
     subst hw''
     have HBq:=hide (HBL.out.trans ((blw_drew nq:Below wr.heap.size wr (wr.drewN nq)).mono (Nat.le_trans hB.out.1 HBL.out.size)))
     have HB2:Hid (OwnL (wr.drewN nq) gb (.slice (some ⟨gb,ob,none⟩) (mb + 1) cb) (x :: bt)):=HB1.out
     have HS2:Hid (OwnL (wr.drewN nq) gs (.slice (some ⟨gs,os,none⟩) (ms + 1) cs) (y :: st)):=HS1.out
     have HP2:Hid (Purse (wr.drewN nq) 131 p f1):=HP1.out
     have xb0':(wr.drewN nq).cell? ⟨gb,ob,none⟩ = some (.int .i64 x.id):=xb0
     have xb1':(wr.drewN nq).cell? ⟨gb,ob + 1,none⟩ = some (.int .i64 x.ow):=xb1
     have xb2':(wr.drewN nq).cell? ⟨gb,ob + 2,none⟩ = some (.int .i64 x.sd):=xb2
     have xb3':(wr.drewN nq).cell? ⟨gb,ob + 3,none⟩ = some (.int .i64 x.pr):=xb3
     have xb4':(wr.drewN nq).cell? ⟨gb,ob + 4,none⟩ = some (.int .i64 x.q):=xb4
     have ys0':(wr.drewN nq).cell? ⟨gs,os,none⟩ = some (.int .i64 y.id):=ys0
     have ys1':(wr.drewN nq).cell? ⟨gs,os + 1,none⟩ = some (.int .i64 y.ow):=ys1
     have ys2':(wr.drewN nq).cell? ⟨gs,os + 2,none⟩ = some (.int .i64 y.sd):=ys2
     have ys3':(wr.drewN nq).cell? ⟨gs,os + 3,none⟩ = some (.int .i64 y.pr):=ys3
     have ys4':(wr.drewN nq).cell? ⟨gs,os + 4,none⟩ = some (.int .i64 y.q):=ys4
     clear HBL HB1 HS1 HP1 xb0 xb1 xb2 xb3 xb4 ys0 ys1 ys2 ys3 ys4
     generalize wr.drewN nq = w1 at *
     go_wp2_with fail
     refine region_quiet_tail 10 (by kernel_rfl) (by kernel_rfl) ?_
     simp only [List.take_succ_cons,List.take_zero,List.drop_succ_cons,List.drop_zero]
     repeat (first | go_big_quiet_step (fail) | quiet_step (fail))
     refine wpQuiet_nil ?_
     intro _ hw'
     obtain ⟨nq,hw''⟩:=hw'
     subst hw''
     have HBL:=hide (HBq.out.trans ((blw_drew nq:Below w1.heap.size w1 (w1.drewN nq)).mono (Nat.le_trans hB.out.1 HBq.out.size)))
     have HB3:Hid (OwnL (w1.drewN nq) gb (.slice (some ⟨gb,ob,none⟩) (mb + 1) cb) (x :: bt)):=HB2.out
     have HS3:Hid (OwnL (w1.drewN nq) gs (.slice (some ⟨gs,os,none⟩) (ms + 1) cs) (y :: st)):=HS2.out
     have HP3:Hid (Purse (w1.drewN nq) 131 p f1):=HP2.out
     clear HBq HB2 HS2 HP2 xb0' xb1' xb2' xb3' xb4' ys0' ys1' ys2' ys3' ys4'
     generalize w1.drewN nq = w2 at *
     obtain ⟨hC,hTI⟩:=HT1.out.step hi ⟨hp1,hp2⟩ HQ.out
     have hTR:=trade_any p i x y price x.q f1 ev w2 (he.out _ HBL.out).ter HP3.out HT1.out.good
     rw [hC] at hTR
     rw [show errE ev 0 = .nilIface from rfl] at hTR
     have hsum:=Pu.trade_sums f1 i x y price x.q
     have HTI:=hide hTI;have HTR:=hide hTR;have HSUM:=hide hsum
     have hgbp:=HB3.out.blk HP3.out
     have hgsp:=HS3.out.blk HP3.out
     have HGB:=hide hgbp;have HGS:=hide hgsp
     clear hC hTI hTR hsum hgbp hgsp
     unfold lotV at HTR
     go_wp2_with fail
     refine HTR.out.mono ?_
     rintro e w3 ⟨rfl,hp3,hs3⟩
     have HBL3:=hide (HBL.out.trans (hs3.below (Nat.le_trans hB.out.1 HBL.out.size) hB.out.2.1))
     have HP4:=hide hp3
     have HB4:=hide (HB3.out.save hs3 HGB.out)
     have HS4:=hide (HS3.out.save hs3 HGS.out)
     clear hp3 hs3 HTR HBL HB3 HS3 HP3
     generalize Pu.tradeF f1 i x y price x.q = f2 at *
     simp only []
     have hlb:=HLB.out
     have hls:=HLS.out
     simp only [List.length_cons] at hlb hls
     have HWb:=hide (without_any gb _ x bt x.q w3 HB4.out qx1 qx2 (by omega) (by omega) (by omega))
     go_wp2_with fail
     refine HWb.out.mono ?_
     rintro e w4 ⟨vb4,rfl,hb4,hs4⟩
     have HBL4:=hide (HBL3.out.trans (hs4.below (Nat.le_trans hB.out.1 HBL3.out.size) hB.out.2.2.1))
     have HP5:=hide (HP4.out.save hs4 (Ne.symm HGB.out))
     have HS5:=hide (HS4.out.save hs4 (Ne.symm hne.out))
     have HB5:=hide hb4
     clear hb4 hs4 HWb HBL3 HP4 HB4 HS4
     simp only []
     have HWs:=hide (without_any gs _ y st x.q w4 HS5.out qy1 qy2 (by omega) (by omega) (by omega))
     go_wp2_with fail
     refine HWs.out.mono ?_
     rintro e w5 ⟨vs5,rfl,hb5,hs5⟩
     have HBL5:=hide (HBL4.out.trans (hs5.below (Nat.le_trans hB.out.1 HBL4.out.size) hB.out.2.2.2))
     have HP6:=hide (HP5.out.save hs5 (Ne.symm HGS.out))
     have HB6:=hide (HB5.out.save hs5 hne.out)
     have HS6:=hide hb5
     clear hb5 hs5 HWs HBL4 HP5 HB5 HS5
     simp only []
     have hl1:=HB6.out.len
     have hl2:=HS6.out.len
     rw [wo_len] at hl1 hl2
     go_wp2_with fail
     refine ⟨⟨⟨f2,_,_,HB6.out,HS6.out,HP6.out,HTI.out,?_,?_,?_,?_⟩,HBL5.out⟩,?_⟩
     ·rw [wo_len];split <;> omega
     ·rw [wo_len];split <;> omega
     ·rw [HSUM.out.1];exact HCA.out
     ·intro k hk;rw [HSUM.out.2 k hk];exact HST.out k hk
     ·have hqq:=HQ.out
      show lenV vb4 + lenV vs5 < (mb + 1) + (ms + 1)
      rw [hl1,hl2,HMB.out,HMS.out]
      split <;> split <;> omega
namespace Fl
def kindE (a:Ask) (k:Int):Nat:=(kindN a k - 1).toNat
theorem kindE_zero {a:Ask} {k:Int} (h:kindN a k = 0):kindE a k = 0:=by unfold kindE;rw [h];rfl
end Fl
section
variable {ev:Nat→Value}
set_option maxHeartbeats 1000000 in
theorem wcheck_any (a:Ask) (w:World) (he:AEr w ev) (hz:11 < w.heap.size):Calls Tryz.prog 127 #[askV a] w fun e w'=>e = .returned (errE ev (Wi.code a.k a.c a.sq a.it a.sd a.pr a.q a.id - 1))∧Below w.heap.size w w':=by
 obtain ⟨ak,ac,asq,ait,asd,apr,aq,aid⟩:=a
 show Calls Tryz.prog 127 #[.agg #[.int .u8 ak,.int .i64 ac,.int .i64 asq,.int .i64 ait,.int .i64 asd,.int .i64 apr,.int .i64 aq,.int .i64 aid]] w fun e w'=>e = .returned (errE ev (Wi.code ak ac asq ait asd apr aq aid - 1))∧_
 unfold Wi.code
 cases hk:Wi.kindB ak with
 | false=>exact check_kind ak ac asq ait asd apr aq aid _ w (by omega) he.c3 hk
 | true =>
  cases hb:Wi.boundB ak ac asq ait asd apr aq aid with
  | false=>exact check_bound ak ac asq ait asd apr aq aid _ w (by omega) he.c1 hk hb
  | true =>
   cases hs:Wi.shapeB ak ait asd apr aq aid with
   | false=>exact check_shape ak ac asq ait asd apr aq aid _ w (by omega) he.c2 hk hb hs
   | true=>exact check_fine ak ac asq ait asd apr aq aid w hk hb hs
theorem AEr.size {w:World} (h:AEr w ev):11 < w.heap.size:=World.block_lt_of_cell? w _ h.c11
set_option maxHeartbeats 1000000 in
theorem fcheck_any (a:Ask) (k:Int) (w:World) (he:Hid (AEr w ev)) (hk:0≤k∧k < 256):Calls Tryz.prog 185 #[askV a,.int .u8 k] w fun e w'=>e = .returned (errE ev (Fl.kindE a k))∧Below w.heap.size w w':=by
 have HA:=hide (fun W (hb:Below w.heap.size w W)=>wcheck_any a W (he.out.below hb) (he.out.below hb).size)
 have HK:Hid (Fl.kindE a k = ((if Wi.code a.k a.c a.sq a.it a.sd a.pr a.q a.id = 0∧a.k≠k then (4:Int) else ((Wi.code a.k a.c a.sq a.it a.sd a.pr a.q a.id:Nat):Int)) - 1).toNat):=rfl
 generalize Fl.kindE a k = KE at *
 obtain ⟨ak,ac,asq,ait,asd,apr,aq,aid⟩:=a
 unfold askV askA at HA ⊢
 simp only [] at HA HK ⊢
 have h1:Wi.code ak ac asq ait asd apr aq aid≠1:=by
  unfold Wi.code;split <;> (try split) <;> (try split) <;> decide
 generalize Wi.code ak ac asq ait asd apr aq aid = cd at *
 have hb0:Below w.heap.size w (w.alloc (.cells #[.int .u8 ak,.int .i64 ac,.int .i64 asq,.int .i64 ait,.int .i64 asd,.int .i64 apr,.int .i64 aq,.int .i64 aid] 45)):=(Below.refl _ _).alloc (Nat.le_refl _) _
 have hr0:(w.alloc (.cells #[.int .u8 ak,.int .i64 ac,.int .i64 asq,.int .i64 ait,.int .i64 asd,.int .i64 apr,.int .i64 aq,.int .i64 aid] 45)).heap[w.heap.size]? = some (.cells #[.int .u8 ak,.int .i64 ac,.int .i64 asq,.int .i64 ait,.int .i64 asd,.int .i64 apr,.int .i64 aq,.int .i64 aid] 45 (0,0)):=heap_alloc_new _ _
 have HB0:=hide hb0;have HR0:=hide hr0
 clear hb0 hr0
 go_enter Tryz.func185,Tryz.ntmps185
 go_wp2_with fail
 refine (HA.out _ HB0.out).mono ?_
 rintro e w2 ⟨rfl,hb2⟩
 have HB2:=hide (HB0.out.trans (hb2.mono HB0.out.size))
 have c0:w2.cell? ⟨w.heap.size,0,none⟩ = some (.int .u8 ak):=by rw [cell_of_row w2 _ 0 _ _ _ (by rw [hb2.block _ (lt_of_block HR0.out)];exact HR0.out)];rfl
 have c3:=(he.out.below HB2.out).c3
 clear hb2 HA HB0 HR0
 simp only []
 by_cases hc:cd = 0
 ·subst hc
  rw [show errE ev (0 - 1) = .nilIface from rfl]
  by_cases hk2:ak = k
  ·subst hk2
   have:(ak != ak) = false:=by simp
   go_wp2
   go_ret
   exact ⟨by rw [HK.out];simp [errE],HB2.out⟩
  ·have hk':(ak != k) = true:=by simpa using hk2
   have hz:=(he.out.below HB2.out).size
   go_wp2
   try go_quiet (fail)
   go_ret
   exact ⟨by rw [HK.out];simp [errE,hk2],HB2.out⟩
 ·obtain ⟨d,rfl⟩:∃ d,cd = d + 1 + 1:=⟨cd - 2,by omega⟩
  have hne:¬ (d + 1 + 1 = 0∧ak≠k):=fun h=>by omega
  have hKE:KE = d + 1:=by rw [HK.out,if_neg hne];omega
  subst hKE
  rw [show errE ev (d + 1 + 1 - 1) = .iface 362 (ev (d + 1)) from rfl]
  clear HK hne hc h1
  go_wp2
  go_ret
  exact ⟨rfl,HB2.out⟩
section
variable {w W:World} {F P:Nat} {I b:Nat→Nat} {v:Nat→Value} {L:Nat→List Cv.Lot} {pf n:Nat→Int} {wd h:Int}
theorem find_in (i:Nat) (hi:i < 3) (hF:Hid (PFl w W F P I b v L pf n wd h)):Calls Tryz.prog 63 #[.pointer (some ⟨F,0,none⟩),.int .i64 i] W fun e w'=>e = .returned (.pointer (some ⟨I i,0,none⟩))∧w' = W:=by
 have HW:=hide (fun W=>within_any (i:Int) 0 2 W)
 rw [show Wi.withinB (i:Int) 0 2 = true by simp [Wi.withinB];omega] at HW
 have ci:=hF.out.cellI hi
 have h0:(0:Int)≤(i:Int):=by omega
 have h3:(i:Int) < 3:=by omega
 go_enter Tryz.func63,Tryz.ntmps63
 go_wp2_with fail
 refine (HW.out _).mono ?_
 rintro e w2 ⟨rfl,rfl⟩
 simp only []
 go_wp2
 go_ret
 exact ⟨rfl,rfl⟩
theorem book_in (i:Nat) (hi:i < 3) (hF:Hid (PFl w W F P I b v L pf n wd h)):Calls Tryz.prog 22 #[.pointer (some ⟨F,0,none⟩),.int .i64 i] W fun e w'=>e = .returned (.pointer (some ⟨b i,0,none⟩))∧w' = W:=by
 have HW:=hide (find_in i hi hF)
 have ci:=hF.out.cellB hi
 go_enter Tryz.func22,Tryz.ntmps22
 go_wp2_with fail
 refine (HW.out).mono ?_
 rintro e w2 ⟨rfl,rfl⟩
 simp only []
 go_wp2
 go_ret
 exact ⟨rfl,rfl⟩
end
end
theorem add_back {l:List Cv.Lot} {x:Cv.Lot} (hn:Cv.has l x.id = false):Bk.canC (l++[x]) x.id = 0∧Bk.canL (l++[x]) x.id = l:=by
 have hh:Cv.has (l++[x]) x.id = true:=by unfold Cv.has;simp
 have hc:Bk.canC (l++[x]) x.id = 0:=by unfold Bk.canC;rw [if_pos hh]
 have hp:Bk.pos (l++[x]) x.id = l.length:=by
  unfold Bk.pos
  have h0:l.findIdx (fun y=>y.id == x.id) = l.length:=Bk.pos_hasnt.1 hn
  rw [List.findIdx_append,h0,if_neg (by omega)]
  simp
 refine ⟨hc,?_⟩
 unfold Bk.canL
 rw [if_pos hc,hp]
 unfold Bk.del
 simp
section
variable {w W:World} {F P:Nat} {I b:Nat→Nat} {v:Nat→Value} {L:Nat→List Cv.Lot} {pf n:Nat→Int} {wd h:Int} {ev:Nat→Value}
set_option maxHeartbeats 1000000 in
theorem place_kind (a:Ask) (hF:Hid (PFl w W F P I b v L pf n wd h)) (he:Hid (AEr w ev)) (hk:Hid (Fl.kindN a 111≠0)) :
  Calls Tryz.prog 157 #[.pointer (some ⟨F,0,none⟩),askV a] W fun e W'=>e = .returned (errE ev (Fl.placeC L pf a))∧∃ v',PFl w W' F P I b v' (Fl.placeL L pf a) (Fl.placeF L pf a) n wd h∧FStep W W' P I b v v':=by
 have hpos:=Fl.kindN_pos hk.out
 have hC:Fl.placeC L pf a = Fl.kindE a 111:=by unfold Fl.placeC Fl.kindE;rw [if_neg hk.out]
 have hne:Fl.placeC L pf a≠0:=by rw [hC];unfold Fl.kindE;omega
 rw [show Fl.placeL L pf a = L by unfold Fl.placeL;rw [if_neg hne],show Fl.placeF L pf a = pf by unfold Fl.placeF;rw [if_neg hne],hC]
 rw [hC] at hne
 have HK:=hide (fun W' (hb:Below W.heap.size W W')=>fcheck_any a 111 W' ((hF.out.er he.out).below hb) (by decide))
 generalize Fl.kindE a 111 = kn at *
 obtain ⟨d,rfl⟩:∃ d,kn = d + 1:=⟨kn - 1,by omega⟩
 rw [show errE ev (d + 1) = .iface 362 (ev (d + 1)) from rfl] at HK ⊢
 clear hC hne
 obtain ⟨ak,ac,asq,ait,asd,apr,aq,aid⟩:=a
 unfold askV askA at HK ⊢
 simp only [] at HK ⊢
 have hb0:Below W.heap.size W (W.alloc (.cells #[.int .u8 ak,.int .i64 ac,.int .i64 asq,.int .i64 ait,.int .i64 asd,.int .i64 apr,.int .i64 aq,.int .i64 aid] 45)):=(Below.refl _ _).alloc (Nat.le_refl _) _
 have HB0:=hide hb0
 clear hb0
 go_enter Tryz.func157,Tryz.ntmps157
 go_wp2_with fail
 refine (HK.out _ HB0.out).mono ?_
 rintro e w2 ⟨rfl,hb2⟩
 have HB2:=hide (HB0.out.trans (hb2.mono HB0.out.size))
 clear hb2 HK HB0
 simp only []
 go_wp2
 go_ret
 exact ⟨rfl,v,hF.out.later HB2.out,FStep.of_below HB2.out P I b v⟩
set_option maxHeartbeats 1000000 in
theorem place_fine (a:Ask) (hF:Hid (PFl w W F P I b v L pf n wd h)) (he:Hid (AEr w ev)) (hok:Hid (Fs.FOk L pf)) (hk:Hid (Fl.kindN a 111 = 0)) :
  Calls Tryz.prog 157 #[.pointer (some ⟨F,0,none⟩),askV a] W fun e W'=>e = .returned (errE ev (Fl.placeC L pf a))∧∃ v',PFl w W' F P I b v' (Fl.placeL L pf a) (Fl.placeF L pf a) n wd h∧FStep W W' P I b v v':=by
 have hit:=Fl.place_item hk.out
 obtain ⟨i,hi⟩:∃ i:Nat,a.it = i:=⟨a.it.toNat,by omega⟩
 have hi3:i < 3:=by omega
 have hC0:Fl.placeC L pf a = if Cv.ok (Fl.lot a) = true then (if Cv.has (L i) a.id = true then 6 else if 60≤(L i).length then 7 else Pu.holdC pf a.it (Fl.lot a)) else 1:=by
  unfold Fl.placeC;rw [if_pos hk.out,show a.it.toNat = i by omega]
 have hC1:Bk.addC (L i) (Fl.lot a) = 1→Fl.placeC L pf a = 1:=fun h=>by
  rw [hC0];unfold Bk.addC at h
  split at h
  ·split at h
   ·cases h
   ·split at h <;> cases h
  ·rename_i hn;rw [if_neg hn]
 have hC2:Bk.addC (L i) (Fl.lot a) = 2→Fl.placeC L pf a = 6:=fun h=>by
  rw [hC0];unfold Bk.addC at h
  split at h
  ·rename_i h1;rw [if_pos h1]
   split at h
   ·rename_i h2;rw [if_pos (by simpa [Fl.lot] using h2)]
   ·split at h <;> cases h
  ·cases h
 have hC3:Bk.addC (L i) (Fl.lot a) = 3→Fl.placeC L pf a = 7:=fun h=>by
  rw [hC0];unfold Bk.addC at h
  split at h
  ·rename_i h1;rw [if_pos h1]
   split at h
   ·cases h
   ·rename_i h2;rw [if_neg (by simpa [Fl.lot] using h2)]
    split at h
    ·rename_i h3;rw [if_pos h3]
    ·cases h
  ·cases h
 have hC4:Bk.addC (L i) (Fl.lot a) = 0→Fl.placeC L pf a = Pu.holdC pf a.it (Fl.lot a):=fun h=>by
  obtain ⟨h1,h2,h3⟩:=Bk.add_ok h
  rw [hC0,if_pos h1,if_neg (by rw [show a.id = (Fl.lot a).id from rfl,h2];simp),if_neg (by omega)]
 have hCx:Bk.addC (L i) (Fl.lot a) = 0∨Bk.addC (L i) (Fl.lot a) = 1∨Bk.addC (L i) (Fl.lot a) = 2∨Bk.addC (L i) (Fl.lot a) = 3:=by
  unfold Bk.addC;split <;> (try split) <;> (try split) <;> simp
 clear hC0
 have hL0:Fl.placeC L pf a = 0→Fl.placeL L pf a = upd L i (L i++[Fl.lot a]):=fun h=>by unfold Fl.placeL;rw [if_pos h,show a.it.toNat = i by omega]
 have hL1:Fl.placeC L pf a≠0→Fl.placeL L pf a = L:=fun h=>by unfold Fl.placeL;rw [if_neg h]
 have hF0:Fl.placeC L pf a = 0→Fl.placeF L pf a = Pu.holdF pf a.it (Fl.lot a):=fun h=>by unfold Fl.placeF;rw [if_pos h]
 have hF1:Fl.placeC L pf a≠0→Fl.placeF L pf a = pf:=fun h=>by unfold Fl.placeF;rw [if_neg h]
 have HK:=hide (fun W' (hb:Below W.heap.size W W')=>fcheck_any a 111 W' ((hF.out.er he.out).below hb) (by decide))
 rw [Fl.kindE_zero hk.out,show errE ev 0 = .nilIface from rfl] at HK
 generalize Fl.placeC L pf a = pc at *
 generalize Fl.placeL L pf a = Lf at *
 generalize Fl.placeF L pf a = Ff at *
 obtain ⟨ak,ac,asq,ait,asd,apr,aq,aid⟩:=a
 simp only [] at hi
 subst hi
 unfold askV askA at HK ⊢
 simp only [Fl.lot] at HK hC1 hC2 hC3 hC4 hL0 hF0 hCx
 simp only []
 have HC1:=hide hC1;have HC2:=hide hC2;have HC3:=hide hC3;have HC4:=hide hC4;have HCX:=hide hCx
 have HL0:=hide hL0;have HL1:=hide hL1;have HF0:=hide hF0;have HF1:=hide hF1
 clear hC1 hC2 hC3 hC4 hL0 hL1 hF0 hF1 hit hk hCx
 have hb0:Below W.heap.size W (W.alloc (.cells #[.int .u8 ak,.int .i64 ac,.int .i64 asq,.int .i64 i,.int .i64 asd,.int .i64 apr,.int .i64 aq,.int .i64 aid] 45)):=(Below.refl _ _).alloc (Nat.le_refl _) _
 have hr0:(W.alloc (.cells #[.int .u8 ak,.int .i64 ac,.int .i64 asq,.int .i64 i,.int .i64 asd,.int .i64 apr,.int .i64 aq,.int .i64 aid] 45)).heap[W.heap.size]? = some (.cells #[.int .u8 ak,.int .i64 ac,.int .i64 asq,.int .i64 i,.int .i64 asd,.int .i64 apr,.int .i64 aq,.int .i64 aid] 45 (0,0)):=heap_alloc_new _ _
 have HB0:=hide hb0;have HR0:=hide hr0
 clear hb0 hr0
 obtain ⟨A,hA⟩:∃ A,W.heap.size = A:=⟨_,rfl⟩
 have HAe:=hide hA
 clear hA
 go_enter Tryz.func157,Tryz.ntmps157
 go_wp2_with fail
 refine (HK.out _ HB0.out).mono ?_
 rintro e w2 ⟨rfl,hb2⟩
 have HB2:=hide (HB0.out.trans (hb2.mono HB0.out.size))
 have HR2:Hid (w2.heap[A]? = some (.cells #[.int .u8 ak,.int .i64 ac,.int .i64 asq,.int .i64 i,.int .i64 asd,.int .i64 apr,.int .i64 aq,.int .i64 aid] 45 (0,0))):=by show _ = _;rw [← HAe.out,hb2.block _ (lt_of_block HR0.out)];exact HR0.out
 have HF2:=hide (hF.out.later HB2.out)
 have HS2:=hide (FStep.of_below HB2.out P I b v)
 rw [HAe.out]
 clear hb2 HK HB0 HR0 HB2 HAe
 have k1:w2.cell? ⟨A,1,none⟩ = some (.int .i64 ac):=by rw [cell_of_row w2 _ 1 _ _ _ HR2.out];rfl
 have k4:w2.cell? ⟨A,4,none⟩ = some (.int .i64 asd):=by rw [cell_of_row w2 _ 4 _ _ _ HR2.out];rfl
 have k5:w2.cell? ⟨A,5,none⟩ = some (.int .i64 apr):=by rw [cell_of_row w2 _ 5 _ _ _ HR2.out];rfl
 have k6:w2.cell? ⟨A,6,none⟩ = some (.int .i64 aq):=by rw [cell_of_row w2 _ 6 _ _ _ HR2.out];rfl
 have k7:w2.cell? ⟨A,7,none⟩ = some (.int .i64 aid):=by rw [cell_of_row w2 _ 7 _ _ _ HR2.out];rfl
 obtain ⟨w3,hw3⟩:∃ w3,w2.alloc (.cells #[.int .i64 aid,.int .i64 ac,.int .i64 asd,.int .i64 apr,.int .i64 aq] 137) = w3:=⟨_,rfl⟩
 obtain ⟨B,hB⟩:∃ B,w2.heap.size = B:=⟨_,rfl⟩
 have hb3:Below w2.heap.size w2 w3:=by rw [← hw3];exact (Below.refl _ _).alloc (Nat.le_refl _) _
 have HX3:Hid (w3.heap[B]? = some (.cells #[.int .i64 aid,.int .i64 ac,.int .i64 asd,.int .i64 apr,.int .i64 aq] 137 (0,0))):=by show _ = _;rw [← hw3,← hB];exact heap_alloc_new _ _
 have HR3:Hid (w3.heap[A]? = some (.cells #[.int .u8 ak,.int .i64 ac,.int .i64 asq,.int .i64 i,.int .i64 asd,.int .i64 apr,.int .i64 aq,.int .i64 aid] 45 (0,0))):=by show _ = _;rw [hb3.block _ (lt_of_block HR2.out)];exact HR2.out
 have HF3:=hide (HF2.out.later hb3)
 have HS3:=hide (HS2.out.below hb3)
 have HBO:Hid (∀ j,j < 3→B≠b j∧(v j).ownBlock≠some B):=fun j hj=>⟨fun e=>by have:=(HF2.out.bk j hj).lt;omega,fun e=>by have:=((HF2.out.bk j hj).rowLt _ e).2;omega⟩
 have HW3:=hide hw3;have HBe:=hide hB
 clear hb3 hw3 hB
 simp only []
 go_wp2_with fail
 rw [HW3.out,HBe.out]
 have a3:w3.cell? ⟨A,3,none⟩ = some (.int .i64 i):=by rw [cell_of_row w3 _ 3 _ _ _ HR3.out];rfl
 have fi:=HF3.out.cellI hi3
 have fb:=HF3.out.cellB hi3
 have hii:(0:Int)≤(i:Int):=by omega
 have hi3':(i:Int) < 3:=by omega
 clear k1 k4 k5 k6 k7 HR2 HF2 HS2 HW3 HBe
 go_quiet (fail)
 have hbq:Below w3.heap.size w3 (w3.drewN nq):=blw_drew nq
 have HX5:Hid ((w3.drewN nq).heap[B]? = some (.cells #[.int .i64 aid,.int .i64 ac,.int .i64 asd,.int .i64 apr,.int .i64 aq] 137 (0,0))):=HX3.out
 have HR5:Hid ((w3.drewN nq).heap[A]? = some (.cells #[.int .u8 ak,.int .i64 ac,.int .i64 asq,.int .i64 i,.int .i64 asd,.int .i64 apr,.int .i64 aq,.int .i64 aid] 45 (0,0))):=HR3.out
 have HF5:=hide (HF3.out.later hbq)
 have HS5:=hide (HS3.out.below hbq)
 clear hbq HX3 HR3 HF3 HS3 a3 fi fb
 generalize w3.drewN nq = w5 at *
 have x0:w5.cell? ⟨B,0,none⟩ = some (.int .i64 aid):=by rw [cell_of_row w5 _ 0 _ _ _ HX5.out];rfl
 have x1:w5.cell? ⟨B,1,none⟩ = some (.int .i64 ac):=by rw [cell_of_row w5 _ 1 _ _ _ HX5.out];rfl
 have x2:w5.cell? ⟨B,2,none⟩ = some (.int .i64 asd):=by rw [cell_of_row w5 _ 2 _ _ _ HX5.out];rfl
 have x3:w5.cell? ⟨B,3,none⟩ = some (.int .i64 apr):=by rw [cell_of_row w5 _ 3 _ _ _ HX5.out];rfl
 have x4:w5.cell? ⟨B,4,none⟩ = some (.int .i64 aq):=by rw [cell_of_row w5 _ 4 _ _ _ HX5.out];rfl
 have hadd:=add_any (b i) w.heap.size (v i) ⟨aid,ac,asd,apr,aq⟩ (L i) 362 (ev 1) (ev 5) (ev 6) (ev 7) w5 (HF5.out.er he.out).er4 (HF5.out.bk i hi3) (hok.out.bk i hi3).len
 have HADD:=hide hadd
 unfold lotV at HADD
 simp only [] at HADD
 clear hadd
 go_wp2_with fail
 refine HADD.out.mono ?_
 rintro e w6 ⟨rfl,v6,hb6,hs6⟩
 have HF6:=hide (HF5.out.book hi3 hb6 hs6)
 have HS6:=hide (HS5.out.trans (FStep.of_book hi3 hs6 P I))
 have HX6:Hid (w6.heap[B]? = some (.cells #[.int .i64 aid,.int .i64 ac,.int .i64 asd,.int .i64 apr,.int .i64 aq] 137 (0,0))):=by
  show _ = _
  rw [hs6.only.block B (lt_of_block HX5.out) (fun e=>(HBO.out i hi3).1 (by simpa using e)) (fun e=>(HBO.out i hi3).2 e.symm)]
  exact HX5.out
 have HR6:Hid (w6.heap[A]? = some (.cells #[.int .u8 ak,.int .i64 ac,.int .i64 asq,.int .i64 i,.int .i64 asd,.int .i64 apr,.int .i64 aq,.int .i64 aid] 45 (0,0))):=by
  show _ = _
  rw [hs6.only.block A (lt_of_block HR5.out) (fun e=>blkT HR5.out (HF5.out.bk i hi3).cell (by decide) (by simpa using e)) (fun e=>rowT (HF5.out.bk i hi3).row HR5.out (by decide) e.symm)]
  exact HR5.out
 clear hb6 hs6 x0 x1 x2 x3 x4 HF5 HS5 HX5 HR5 HADD
 simp only []
 rcases HCX.out with hc | hc | hc | hc
 ·have hpc:=HC4.out hc
  rw [show errOf 362 (ev 1) (ev 5) (ev 6) (ev 7) (Bk.addC (L i) ⟨aid,ac,asd,apr,aq⟩) = .nilIface by rw [hc];rfl]
  have hLa:Bk.addL (L i) ⟨aid,ac,asd,apr,aq⟩ = L i++[⟨aid,ac,asd,apr,aq⟩]:=by unfold Bk.addL;rw [if_pos hc]
  rw [hLa] at HF6
  obtain ⟨hok1,hn1,hl1⟩:=Bk.add_ok hc
  have HBACK:=hide (add_back (l:=L i) (x:=⟨aid,ac,asd,apr,aq⟩) hn1)
  have HPC:=hide hpc
  have HLEN:Hid ((L i++[(⟨aid,ac,asd,apr,aq⟩:Cv.Lot)]).length≤60):=by show _≤_;simp;omega
  clear hc hLa hpc hok1 hn1 hl1 HC1 HC2 HC3 HC4 HCX
  have x0:w6.cell? ⟨B,0,none⟩ = some (.int .i64 aid):=by rw [cell_of_row w6 _ 0 _ _ _ HX6.out];rfl
  have x1:w6.cell? ⟨B,1,none⟩ = some (.int .i64 ac):=by rw [cell_of_row w6 _ 1 _ _ _ HX6.out];rfl
  have x2:w6.cell? ⟨B,2,none⟩ = some (.int .i64 asd):=by rw [cell_of_row w6 _ 2 _ _ _ HX6.out];rfl
  have x3:w6.cell? ⟨B,3,none⟩ = some (.int .i64 apr):=by rw [cell_of_row w6 _ 3 _ _ _ HX6.out];rfl
  have x4:w6.cell? ⟨B,4,none⟩ = some (.int .i64 aq):=by rw [cell_of_row w6 _ 4 _ _ _ HX6.out];rfl
  have a3:w6.cell? ⟨A,3,none⟩ = some (.int .i64 i):=by rw [cell_of_row w6 _ 3 _ _ _ HR6.out];rfl
  have fp:=HF6.out.cellP
  go_wp2_with fail
  refine region_quiet_tail 7 (by kernel_rfl) (by kernel_rfl) ?_
  simp only [List.take_succ_cons,List.take_zero,List.drop_succ_cons,List.drop_zero]
  repeat (first | go_big_quiet_step (fail) | quiet_step (fail))
  refine wpQuiet_nil ?_
  intro _ hw'
  obtain ⟨nq,hw''⟩:=hw'
  subst hw''
  have HX7:Hid ((w6.drewN nq).heap[B]? = some (.cells #[.int .i64 aid,.int .i64 ac,.int .i64 asd,.int .i64 apr,.int .i64 aq] 137 (0,0))):=HX6.out
  have HF7:=hide (HF6.out.later (blw_drew nq))
  have HS7:=hide (HS6.out.below (blw_drew nq))
  clear x0 x1 x2 x3 x4 a3 fp HX6 HR6 HF6 HS6
  generalize w6.drewN nq = w7 at *
  have HH:=hide (hold_any P i ⟨aid,ac,asd,apr,aq⟩ pf ev w7 (HF7.out.er he.out).per HF7.out.pu hok.out.good)
  unfold lotV at HH
  simp only [] at HH
  go_wp2_with fail
  refine HH.out.mono ?_
  rintro e w8 ⟨rfl,hp8,hs8⟩
  have HF8:=hide (HF7.out.purse hp8 hs8)
  have HS8:=hide (HS7.out.trans (FStep.of_purse hs8 I b _))
  have HX8:Hid (w8.heap[B]? = some (.cells #[.int .i64 aid,.int .i64 ac,.int .i64 asd,.int .i64 apr,.int .i64 aq] 137 (0,0))):=by
   show _ = _
   rw [hs8.block _ (lt_of_block HX7.out) (blkT HX7.out HF7.out.pu (by decide))]
   exact HX7.out
  clear hp8 hs8 HH HX7 HF7 HS7
  rw [← HPC.out]
  simp only []
  by_cases h0:pc = 0
  ·subst h0
   rw [show errE ev 0 = .nilIface from rfl]
   go_wp2
   go_ret
   refine ⟨rfl,_,?_,HS8.out⟩
   rw [HL0.out (by simp),HF0.out (by simp)]
   exact HF8.out
  ·obtain ⟨d,rfl⟩:∃ d,pc = d + 1:=⟨pc - 1,by omega⟩
   rw [show errE ev (d + 1) = .iface 362 (ev (d + 1)) from rfl]
   have hpf:Pu.holdF pf i ⟨aid,ac,asd,apr,aq⟩ = pf:=by unfold Pu.holdF;rw [if_neg (by rw [← HPC.out];omega)]
   rw [hpf] at HF8
   have x0:w8.cell? ⟨B,0,none⟩ = some (.int .i64 aid):=by rw [cell_of_row w8 _ 0 _ _ _ HX8.out];rfl
   have hbk:=HF8.out.bk i hi3
   rw [upd_same,upd_same] at hbk
   have hcan:=cancel_any (b i) w.heap.size v6 aid (L i++[(⟨aid,ac,asd,apr,aq⟩:Cv.Lot)]) 362 (ev 1) (ev 5) (ev 6) (ev 7) w8 (HF8.out.er he.out).er4 hbk HLEN.out
   have hcl:Bk.canL (L i++[(⟨aid,ac,asd,apr,aq⟩:Cv.Lot)]) aid = L i:=HBACK.out.2
   rw [hcl] at hcan
   have HCAN:=hide hcan
   clear hpf hbk hcan hcl
   go_wp2_with fail
   refine HCAN.out.mono ?_
   rintro e w9 ⟨rfl,v9,hb9,hs9⟩
   have hs9':Step w8 w9 (b i) (upd v i v6 i) v9:=by rw [upd_same];exact hs9
   have HF9:=hide (HF8.out.book hi3 hb9 hs9')
   have HS9:=hide (HS8.out.trans (FStep.of_book hi3 hs9' P I))
   rw [upd_upd,upd_upd,upd_self L i] at HF9
   rw [upd_upd] at HS9
   clear hb9 hs9 hs9' HCAN HF8 HS8
   simp only []
   go_wp2
   go_ret
   refine ⟨rfl,_,?_,HS9.out⟩
   rw [HL1.out (by omega),HF1.out (by omega)]
   exact HF9.out
 ·have hpc:pc = 1:=HC1.out hc
  rw [show errOf 362 (ev 1) (ev 5) (ev 6) (ev 7) (Bk.addC (L i) ⟨aid,ac,asd,apr,aq⟩) = .iface 362 (ev 1) by rw [hc];rfl]
  have hLa:Bk.addL (L i) ⟨aid,ac,asd,apr,aq⟩ = L i:=by unfold Bk.addL;rw [if_neg (by rw [hc];decide)]
  rw [hLa,upd_self] at HF6
  clear hc hLa
  go_wp2
  go_ret
  exact ⟨by rw [hpc];rfl,_,by rw [HL1.out (by omega),HF1.out (by omega)];exact HF6.out,HS6.out⟩
 ·have hpc:pc = 6:=HC2.out hc
  rw [show errOf 362 (ev 1) (ev 5) (ev 6) (ev 7) (Bk.addC (L i) ⟨aid,ac,asd,apr,aq⟩) = .iface 362 (ev 6) by rw [hc];rfl]
  have hLa:Bk.addL (L i) ⟨aid,ac,asd,apr,aq⟩ = L i:=by unfold Bk.addL;rw [if_neg (by rw [hc];decide)]
  rw [hLa,upd_self] at HF6
  clear hc hLa
  go_wp2
  go_ret
  exact ⟨by rw [hpc];rfl,_,by rw [HL1.out (by omega),HF1.out (by omega)];exact HF6.out,HS6.out⟩
 ·have hpc:pc = 7:=HC3.out hc
  rw [show errOf 362 (ev 1) (ev 5) (ev 6) (ev 7) (Bk.addC (L i) ⟨aid,ac,asd,apr,aq⟩) = .iface 362 (ev 7) by rw [hc];rfl]
  have hLa:Bk.addL (L i) ⟨aid,ac,asd,apr,aq⟩ = L i:=by unfold Bk.addL;rw [if_neg (by rw [hc];decide)]
  rw [hLa,upd_self] at HF6
  clear hc hLa
  go_wp2
  go_ret
  exact ⟨by rw [hpc];rfl,_,by rw [HL1.out (by omega),HF1.out (by omega)];exact HF6.out,HS6.out⟩
theorem place_any (a:Ask) (hF:PFl w W F P I b v L pf n wd h) (he:AEr w ev) (hok:Fs.FOk L pf) :
  Calls Tryz.prog 157 #[.pointer (some ⟨F,0,none⟩),askV a] W fun e W'=>e = .returned (errE ev (Fl.placeC L pf a))∧∃ v',PFl w W' F P I b v' (Fl.placeL L pf a) (Fl.placeF L pf a) n wd h∧FStep W W' P I b v v':=by
 by_cases hk:Fl.kindN a 111 = 0
 ·exact place_fine a hF he hok hk
 ·exact place_kind a hF he hk
end
section
variable {w W:World} {F P:Nat} {I b:Nat→Nat} {v:Nat→Value} {L:Nat→List Cv.Lot} {pf n:Nat→Int} {wd h:Int} {ev:Nat→Value}
theorem PFl.fresh (hF:PFl w W F P I b v L pf n wd h) {q:Nat} (hq:W.heap.size≤q):q≠F∧q≠P∧∀ i,i < 3→q≠I i∧q≠b i∧(v i).ownBlock≠some q:=by
 have h1:=hF.lt
 have h2:=hF.pu.lt
 refine ⟨by omega,by omega,fun i hi=>?_⟩
 have h3:=lt_of_block (hF.it i hi)
 have h4:=(hF.bk i hi).lt
 exact ⟨by omega,by omega,fun e=>by have:=((hF.bk i hi).rowLt _ e).2;omega⟩
set_option maxHeartbeats 1000000 in
theorem remove_act (i:Nat) (hi:i < 3) (x:Cv.Lot) (hF:Hid (PFl w W F P I b v L pf n wd h)) (he:Hid (AEr w ev)) (hg:Hid (Pu.Good pf)) (hl:Hid ((L i).length≤60)) :
  Calls Tryz.prog 156 #[.pointer (some ⟨F,0,none⟩),.int .i64 i,lotV x] W fun e W'=>e = .returned (.tuple #[])∧∃ v',PFl w W' F P I b v' (upd L i (Bk.canL (L i) x.id)) (Pu.freeF pf i x) n wd h∧FStep W W' P I b v v':=by
 obtain ⟨x0,x1,x2,x3,x4⟩:=x
 unfold lotV
 simp only []
 obtain ⟨B,hB⟩:∃ B,W.heap.size = B:=⟨_,rfl⟩
 obtain ⟨w1,hw1⟩:∃ w1,W.alloc (.cells #[.int .i64 x0,.int .i64 x1,.int .i64 x2,.int .i64 x3,.int .i64 x4] 137) = w1:=⟨_,rfl⟩
 have hb1:Below W.heap.size W w1:=by rw [← hw1];exact (Below.refl _ _).alloc (Nat.le_refl _) _
 have HX1:Hid (w1.heap[B]? = some (.cells #[.int .i64 x0,.int .i64 x1,.int .i64 x2,.int .i64 x3,.int .i64 x4] 137 (0,0))):=by show _ = _;rw [← hw1,← hB];exact heap_alloc_new _ _
 have HF1:=hide (hF.out.later hb1)
 have HS1:=hide (FStep.of_below hb1 P I b v)
 have HFR:=hide (hF.out.fresh (q:=B) (by omega))
 have HW1:=hide hw1;have HBe:=hide hB
 clear hb1 hw1 hB
 have k0:w1.cell? ⟨B,0,none⟩ = some (.int .i64 x0):=by rw [cell_of_row w1 _ 0 _ _ _ HX1.out];rfl
 have fi:=HF1.out.cellI hi
 have fb:=HF1.out.cellB hi
 have h0:(0:Int)≤(i:Int):=by omega
 have h3:(i:Int) < 3:=by omega
 go_enter Tryz.func156,Tryz.ntmps156
 go_wp2_with fail
 rw [HW1.out,HBe.out]
 refine region_quiet_tail 11 (by kernel_rfl) (by kernel_rfl) ?_
 simp only [List.take_succ_cons,List.take_zero,List.drop_succ_cons,List.drop_zero]
 repeat (first | go_big_quiet_step (fail) | quiet_step (fail))
 refine wpQuiet_nil ?_
 intro _ hw'
 obtain ⟨nq,hw''⟩:=hw'
 subst hw''
 have HX2:Hid ((w1.drewN nq).heap[B]? = some (.cells #[.int .i64 x0,.int .i64 x1,.int .i64 x2,.int .i64 x3,.int .i64 x4] 137 (0,0))):=HX1.out
 have HF2:=hide (HF1.out.later (blw_drew nq))
 have HS2:=hide (HS1.out.below (blw_drew nq))
 clear k0 fi fb HX1 HF1 HS1 HW1
 generalize w1.drewN nq = w2 at *
 have HCAN:=hide (cancel_any (b i) w.heap.size (v i) x0 (L i) 362 (ev 1) (ev 5) (ev 6) (ev 7) w2 (HF2.out.er he.out).er4 (HF2.out.bk i hi) hl.out)
 go_wp2_with fail
 refine HCAN.out.mono ?_
 rintro e w3 ⟨rfl,v3,hb3,hs3⟩
 have HF3:=hide (HF2.out.book hi hb3 hs3)
 have HS3:=hide (HS2.out.trans (FStep.of_book hi hs3 P I))
 have HX3:Hid (w3.heap[B]? = some (.cells #[.int .i64 x0,.int .i64 x1,.int .i64 x2,.int .i64 x3,.int .i64 x4] 137 (0,0))):=by
  show _ = _
  rw [hs3.only.block B (lt_of_block HX2.out) (fun e=>(HFR.out.2.2 i hi).2.1 (by simpa using e)) (fun e=>(HFR.out.2.2 i hi).2.2 e.symm)]
  exact HX2.out
 clear hb3 hs3 HCAN HX2 HF2 HS2
 simp only []
 have k0:w3.cell? ⟨B,0,none⟩ = some (.int .i64 x0):=by rw [cell_of_row w3 _ 0 _ _ _ HX3.out];rfl
 have k1:w3.cell? ⟨B,1,none⟩ = some (.int .i64 x1):=by rw [cell_of_row w3 _ 1 _ _ _ HX3.out];rfl
 have k2:w3.cell? ⟨B,2,none⟩ = some (.int .i64 x2):=by rw [cell_of_row w3 _ 2 _ _ _ HX3.out];rfl
 have k3:w3.cell? ⟨B,3,none⟩ = some (.int .i64 x3):=by rw [cell_of_row w3 _ 3 _ _ _ HX3.out];rfl
 have k4:w3.cell? ⟨B,4,none⟩ = some (.int .i64 x4):=by rw [cell_of_row w3 _ 4 _ _ _ HX3.out];rfl
 have fp:=HF3.out.cellP
 go_wp2_with fail
 refine region_quiet_tail 6 (by kernel_rfl) (by kernel_rfl) ?_
 simp only [List.take_succ_cons,List.take_zero,List.drop_succ_cons,List.drop_zero]
 repeat (first | go_big_quiet_step (fail) | quiet_step (fail))
 refine wpQuiet_nil ?_
 intro _ hw'
 obtain ⟨nq,hw''⟩:=hw'
 subst hw''
 have HF4:=hide (HF3.out.later (blw_drew nq))
 have HS4:=hide (HS3.out.below (blw_drew nq))
 clear k0 k1 k2 k3 k4 fp HX3 HF3 HS3
 generalize w3.drewN nq = w4 at *
 have HFREE:=hide (free_any P i ⟨x0,x1,x2,x3,x4⟩ pf ev w4 (HF4.out.er he.out).per HF4.out.pu hg.out)
 unfold lotV at HFREE
 simp only [] at HFREE
 go_wp2_with fail
 refine HFREE.out.mono ?_
 rintro e w5 ⟨rfl,hp5,hs5⟩
 have HF5:=hide (HF4.out.purse hp5 hs5)
 have HS5:=hide (HS4.out.trans (FStep.of_purse hs5 I b _))
 clear hp5 hs5 HFREE HF4 HS4
 simp only []
 go_wp2
 go_end0
 exact ⟨rfl,_,HF5.out,HS5.out⟩
end
end Go.Proofs.YtidahfhingdlmaaGreatDoor
