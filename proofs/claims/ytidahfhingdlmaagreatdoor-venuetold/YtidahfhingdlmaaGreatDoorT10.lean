/- A book in memory: a cell that holds a slice, and the row of lots behind it; what it is behind a store, an append and a removal. -/
import Derived.Test.YtidahfhingdlmaaGreatDoorT09
import Derived.Test.YtidahfhingdlmaaGreatDoorT02
import Derived.OneCell
import Derived.Laws.IdiomCopy
namespace Go.Proofs.YtidahfhingdlmaaGreatDoor
open Go.RowKit
set_option maxRecDepth 100000
structure Only (w w':World) (a b:Option Nat):Prop where
 os:w'.os = w.os
 tape:w'.tape = w.tape
 output:w'.output = w.output
 size:w.heap.size≤w'.heap.size
 block:∀ k,k < w.heap.size→some k≠a→some k≠b→w'.heap[k]? = w.heap[k]?
theorem Only.refl (w:World) (a b:Option Nat):Only w w a b:=⟨rfl,rfl,rfl,Nat.le_refl _,fun _ _ _ _=>rfl⟩
theorem Only.of_below {w w':World} (h:Below w.heap.size w w') (a b:Option Nat):Only w w' a b:=⟨h.os,h.tape,h.output,h.size,fun k hk _ _=>h.block k hk⟩
theorem Only.of_grown {w w':World} {r:Option Nat} (h:w.grownBy w' r) (a:Option Nat):Only w w' a r:=⟨h.os,h.tape,h.output,h.size,fun k hk _ h2=>h.block k hk h2⟩
theorem Only.trans {w w1 w2:World} {a b b1:Option Nat} (h:Only w w1 a b) (h1:Only w1 w2 a b1) (hb:∀ k,b1 = some k→b = some k∨w.heap.size≤k):Only w w2 a b :=
 ⟨h1.os.trans h.os,h1.tape.trans h.tape,h1.output.trans h.output,Nat.le_trans h.size h1.size,fun k hk ha hk2=>by
  rw [h1.block k (Nat.lt_of_lt_of_le hk h.size) ha (fun e=>?_)]
  ·exact h.block k hk ha hk2
  ·rcases hb k e.symm with h3 | h3
   ·exact hk2 h3.symm
   ·omega⟩
theorem Only.below {w w':World} {a b:Option Nat} {n:Nat} (h:Only w w' a b) (hn:n≤w.heap.size) (ha:∀ k,a = some k→n≤k) (hb:∀ k,b = some k→n≤k):Below n w w' :=
 ⟨h.os,h.tape,h.output,h.size,fun k hk=>h.block k (by omega) (fun e=>by have:=ha k e.symm;omega) (fun e=>by have:=hb k e.symm;omega)⟩
theorem Only.cell {w w':World} {a b:Option Nat} (h:Only w w' a b) {p:Addr} {v:Value} (hc:w.cell? p = some v) (ha:some p.block≠a) (hb:some p.block≠b):w'.cell? p = some v :=
 (World.cell?_of_block (h.block p.block (World.block_lt_of_cell? w p hc) ha hb)).trans hc
theorem Only.setCell (w:World) (g o:Nat) (v:Value) (b:Option Nat):Only w (w.setCell ⟨g,o,none⟩ v) (some g) b :=
 ⟨rfl,rfl,rfl,by simp,fun k _ ha _=>Below.heap_setCell _ _ _ _ (fun e=>ha (by rw [e]))⟩
theorem Only.swap {w w':World} {a b:Option Nat} (h:Only w w' a b):Only w w' b a:=⟨h.os,h.tape,h.output,h.size,fun k hk h1 h2=>h.block k hk h2 h1⟩
theorem Only.setCells (w:World) (g:Nat):∀ (vs:List Value) (o:Nat) (a:Option Nat),Only w (w.setCells g o vs) a (some g):=by
 intro vs
 induction vs generalizing w with
 | nil=>intro o a;exact Only.refl w _ _
 | cons v vs ih =>
  intro o a
  exact (Only.setCell w g o v a).swap.trans (ih (w.setCell ⟨g,o,none⟩ v) (o + 1) a) (fun k h=>.inl h)
structure Book (w:World) (base p:Nat) (v:Value) (l:List Cv.Lot):Prop where
 cell:w.heap[p]? = some (.cells #[v] 139 (0,0))
 lo:base≤p
 row:w.ownsRow base 137 5 v l.length (flat l)
theorem Book.ne {w:World} {base p:Nat} {v:Value} {l:List Cv.Lot} (h:Book w base p v l):v.ownBlock≠some p:=by
 intro e
 rcases h.row.2 with ⟨e1,_⟩ | ⟨r,cap,cur,e1,_,hr,_⟩
 ·rw [e1] at e;cases e
 ·rw [e1] at e
  have:r = p:=by simpa [Value.ownBlock] using e
  rw [this,h.cell] at hr
  cases hr
theorem Book.lt {w:World} {base p:Nat} {v:Value} {l:List Cv.Lot} (h:Book w base p v l):p < w.heap.size:=lt_of_block h.cell
theorem Book.rowLt {w:World} {base p:Nat} {v:Value} {l:List Cv.Lot} (h:Book w base p v l):∀ k,v.ownBlock = some k→base≤k∧k < w.heap.size:=h.row.lt
theorem row_only {w w':World} {a b:Option Nat} {base:Nat} {e:TypeId} {s:Nat} {v:Value} {n:Nat} {xs:List Value} (hr:w.ownsRow base e s v n xs) (h:Only w w' a b) (ha:∀ k,v.ownBlock = some k→some k≠a) (hb:∀ k,v.ownBlock = some k→some k≠b):w'.ownsRow base e s v n xs:=by
 refine ⟨hr.1,?_⟩
 rcases hr.2 with hn | ⟨g,cap,cur,rfl,hg,hgg,rest⟩
 ·exact .inl hn
 ·exact .inr ⟨g,cap,cur,rfl,hg,by rw [h.block g (lt_of_block hgg) (ha g rfl) (hb g rfl)];exact hgg,rest⟩
theorem Book.only {w w':World} {a b:Option Nat} {base p:Nat} {v:Value} {l:List Cv.Lot} (h:Book w base p v l) (ho:Only w w' a b) (h1:some p≠a) (h2:some p≠b) (h3:∀ k,v.ownBlock = some k→some k≠a) (h4:∀ k,v.ownBlock = some k→some k≠b):Book w' base p v l :=
 ⟨by rw [ho.block p h.lt h1 h2];exact h.cell,h.lo,row_only h.row ho h3 h4⟩
theorem Book.later {w w':World} {base p:Nat} {v:Value} {l:List Cv.Lot} (h:Book w base p v l) (hb:Below w.heap.size w w'):Book w' base p v l :=
 h.only (Only.of_below hb none none) (by simp) (by simp) (fun _ _=>by simp) (fun _ _=>by simp)
theorem Book.form {w:World} {base p:Nat} {v:Value} {l:List Cv.Lot} (h:Book w base p v l):(v = .slice none 0 0∧l = [])∨∃ g cap,v = .slice (some ⟨g,0,none⟩) l.length cap∧l.length≤cap∧base≤g∧LotsAt w g 0 l:=by
 rcases h.row.2 with ⟨e,e2⟩ | ⟨g,cap,cur,e,hg,hgg,hle,_,_,_⟩
 ·exact .inl ⟨e,List.eq_nil_of_length_eq_zero e2⟩
 ·refine .inr ⟨g,cap,e,hle,hg,lotsAt_of_flat fun j u hu=>?_⟩
  have:=World.ownsRow.cells h.row (g:=g) (by rw [e];rfl) j u hu
  have hp:(⟨g,0,none⟩:Addr).add j = ⟨g,j,none⟩:=by unfold Addr.add;split <;> simp_all
  rwa [hp] at this
structure Step (w w':World) (p:Nat) (v v':Value):Prop where
 only:Only w w' (some p) v.ownBlock
 new:∀ k,v'.ownBlock = some k→v.ownBlock = some k∨w.heap.size≤k
theorem Step.of_below {w w':World} (h:Below w.heap.size w w') (p:Nat) (v:Value):Step w w' p v v:=⟨Only.of_below h _ _,fun _ h=>.inl h⟩
theorem Step.trans {w w1 w2:World} {p:Nat} {v v1 v2:Value} (h:Step w w1 p v v1) (h1:Step w1 w2 p v1 v2):Step w w2 p v v2 :=
 ⟨h.only.trans h1.only h.new,fun k hk=>by
  rcases h1.new k hk with h3 | h3
  ·exact h.new k h3
  ·exact .inr (Nat.le_trans h.only.size h3)⟩
theorem Step.below {w w':World} {base p:Nat} {v v':Value} {l:List Cv.Lot} (h:Step w w' p v v') (hb:Book w base p v l) (n:Nat) (hn:n≤base):Below n w w' :=
 h.only.below (by have:=hb.lo;have:=hb.lt;omega) (fun k e=>by cases e;have:=hb.lo;omega) (fun k e=>by have:=(hb.rowLt k e).1;omega)
theorem setCells_block {e:TypeId} {fz:Nat × Nat} (g:Nat):∀ (vs:List Value) (o:Nat) (w:World) (cur:Array Value),w.heap[g]? = some (.cells cur e fz)→o + vs.length≤cur.size →
  ∃ cur',(w.setCells g o vs).heap[g]? = some (.cells cur' e fz)∧cur'.size = cur.size∧cur'.toList = cur.toList.take o++vs++cur.toList.drop (o + vs.length)
 | [],o,w,cur,h,hs=>⟨cur,h,rfl,by simp⟩
 | v :: vs,o,w,cur,h,hs=>by
  have hlt:=lt_of_block h
  have h':w.heap[g] = .cells cur e fz:=by simpa [Array.getElem?_eq_getElem hlt] using h
  have h1:(w.setCell ⟨g,o,none⟩ v).heap[g]? = some (.cells (cur.setIfInBounds o v) e fz):=by
   show (w.heap.modify g _)[g]? = _
   rw [Array.getElem?_eq_getElem (by simpa using hlt),Array.getElem_modify_self,h']
   rfl
  simp only [List.length_cons] at hs
  obtain ⟨cur',a1,a2,a3⟩:=setCells_block g vs (o + 1) _ _ h1 (by simp;omega)
  refine ⟨cur',a1,by rw [a2];simp,?_⟩
  rw [a3]
  simp only [List.length_cons,Array.toList_setIfInBounds]
  have ho:o < cur.toList.length:=by simp;omega
  rw [List.take_succ_eq_append_getElem (by simpa using ho),List.take_set_of_le (Nat.le_refl o),List.getElem_set_self,List.drop_set_of_lt (by omega),show o + 1 + vs.length = o + (vs.length + 1) by omega]
  simp
theorem row_setCells {w:World} {base:Nat} {e:TypeId} {s g n cap:Nat} {xs:List Value} (h:w.ownsRow base e s (.slice (some ⟨g,0,none⟩) n cap) n xs) (o:Nat) (vs:List Value) (m:Nat) (hm:m≤cap) (hv:o + vs.length≤n * s) (ys:List Value) (hy:ys.length = m * s) (hmn:m≤n) (he:(xs.take o++vs++xs.drop (o + vs.length)).take (m * s) = ys) :
  (w.setCells g o vs).ownsRow base e s (.slice (some ⟨g,0,none⟩) m cap) m ys:=by
 rcases h.2 with ⟨e1,_⟩ | ⟨g',cap',cur,e1,hg,hgg,h1,h2,h3,h4⟩
 ·cases e1
 ·obtain ⟨rfl,rfl⟩:g = g'∧cap = cap':=by simpa using e1
  have hle:n * s≤cur.size:=by rw [h3];exact Nat.mul_le_mul_right _ h1
  obtain ⟨cur',a1,a2,a3⟩:=setCells_block g vs o w cur hgg (by omega)
  refine ⟨hy,.inr ⟨g,cap,cur',rfl,hg,a1,hm,h2,by rw [a2,h3],?_⟩⟩
  have hms:m * s≤n * s:=Nat.mul_le_mul_right _ hmn
  rw [a3,← he,← h4]
  have hx:cur.toList = cur.toList.take (n * s)++cur.toList.drop (n * s):=(List.take_append_drop _ _).symm
  have hl:(cur.toList.take (n * s)).length = n * s:=by rw [List.length_take];simp;omega
  generalize cur.toList.take (n * s) = A at *
  generalize cur.toList.drop (n * s) = C at *
  have e1:(A++C).take o = A.take o:=List.take_append_of_le_length (by omega)
  have e2:(A++C).drop (o + vs.length) = A.drop (o + vs.length)++C:=List.drop_append_of_le_length (by omega)
  rw [hx,e1,e2,← List.append_assoc]
  exact List.take_append_of_le_length (by simp only [List.length_append,List.length_take,List.length_drop];omega)
namespace Bk
open Cv
def posI (l:List Lot) (id:Int):Int:=if has l id = true then (pos l id:Int) else -1
theorem posI_none {l:List Lot} {id:Int} (h:has l id = false):posI l id = -1:=by unfold posI;rw [h];rfl
theorem posI_some {l:List Lot} {id:Int} (h:has l id = true):posI l id = (pos l id:Nat):=by unfold posI;rw [if_pos h]
theorem posI_at {l:List Lot} {id:Int} {k:Nat} (hk:k < l.length) (hn:has (l.take k) id = false) (hx:(nth l k).id = id):posI l id = (k:Nat):=by
 have h1:has l id = true:=List.any_eq_true.2 ⟨nth l k,nth_mem hk,by simpa using hx⟩
 rw [posI_some h1]
 have h2:pos l id = k:=by
  unfold pos
  rw [List.findIdx_eq hk]
  refine ⟨by rw [← nth_get hk];simpa using hx,fun j hj=>?_⟩
  have:=List.any_eq_false.1 hn l[j] (by rw [List.mem_take_iff_getElem];exact ⟨j,by omega,rfl⟩)
  simpa using this
 rw [h2]
theorem posI_lt {l:List Lot} {id:Int} (h:has l id = true):pos l id < l.length:=pos_has.1 h
end Bk
theorem findClos_any (x:Cv.Lot) (B:Nat) (id:Int) (w:World) (hc:w.cell? ⟨B,0,none⟩ = some (.int .i64 id)) :
  Calls Tryz.prog 205 #[lotV x,.pointer (some ⟨B,0,none⟩)] w fun e w'=>e = .returned (.bool (x.id == id))∧Below w.heap.size w w':=by
 have hB:B < w.heap.size:=World.block_lt_of_cell? _ _ hc
 have hne:B≠w.heap.size:=by omega
 show Calls Tryz.prog 205 #[.agg #[.int .i64 x.id,.int .i64 x.ow,.int .i64 x.sd,.int .i64 x.pr,.int .i64 x.q],.pointer (some ⟨B,0,none⟩)] w _
 go_enter Tryz.func205,Tryz.ntmps205
 go_wp2
 all_goals go_ret
 all_goals
  refine ⟨ret_bool ?_,(Below.refl _ _).alloc (Nat.le_refl _) _⟩
  first | rfl | simp_all
set_option maxHeartbeats 1000000 in
theorem indexFunc_at (b off cap B:Nat) (id:Int) (l:List Cv.Lot) (w:World) (hn':l.length≤1000) (hl:Hid (LotsAt w b off l)) (hc:w.cell? ⟨B,0,none⟩ = some (.int .i64 id)) :
  Calls Tryz.prog 204 #[.slice (some ⟨b,off,none⟩) l.length cap,.func (.func 205) #[] #[.pointer (some ⟨B,0,none⟩)]] w fun e w'=>e = .returned (.int .i64 (Bk.posI l id))∧Below w.heap.size w w':=by
 generalize hn:l.length = n at *
 have Hn:=hide hn
 clear hn
 go_enter Tryz.func204,Tryz.ntmps204
 go_wp2
 go_loopw [8] (fun i wr=>∃ k:Nat,k≤n∧i = .int .i64 k∧Cv.has (l.take k) id = false∧Below w.heap.size w wr) (fun i _=>n - (intOf i).toNat)
 case atStart=>exact ⟨0,Nat.zero_le _,rfl,rfl,Below.refl _ _⟩
 case round =>
  obtain ⟨k,hk,rfl,hno,hb⟩:=hrel
  have HN:=hide hno;have HB:=hide hb
  clear hno hb
  by_cases hlt:k < n
  ·have hki:(k:Int) < n:=by omega
   obtain ⟨c0,c1,c2,c3,c4⟩:=(hl.out.later HB.out) k (by rw [Hn.out];exact hlt)
   have hcB:=cell_later HB.out hc
   have HC:=hide (findClos_any (Cv.nth l k) B id wr hcB)
   have HT:=hide (Cv.take_succ (l:=l) (i:=k) (by rw [Hn.out];exact hlt))
   obtain ⟨x,hxx⟩:∃ x,Cv.nth l k = x:=⟨_,rfl⟩
   rw [hxx] at HC HT c0 c1 c2 c3 c4
   have HX:=hide hxx
   clear hxx
   go_wp2_with fail
   refine HC.out.mono ?_
   rintro e w2 ⟨rfl,hb2⟩
   have HB2:=hide (HB.out.trans (hb2.mono HB.out.size))
   clear hb2 c0 c1 c2 c3 c4 hcB HC
   by_cases hx:x.id = id
   ·have hxb:(x.id == id) = true:=by simpa using hx
    have Hx:=hide hx
    clear hx
    rw [hxb]
    simp only []
    go_wp2
    go_ret
    refine ⟨?_,HB2.out⟩
    rw [Bk.posI_at (by rw [Hn.out];exact hlt) HN.out (by rw [HX.out];exact Hx.out)]
    rfl
   ·have hxb:(x.id == id) = false:=by simpa using hx
    have hno':Cv.has (l.take (k + 1)) id = false:=by
     have hh:=HN.out
     rw [HT.out]
     unfold Cv.has at hh ⊢
     rw [List.any_append,hh]
     simp [hx]
    have Hno:=hide hno'
    clear hx hno'
    rw [hxb]
    simp only []
    go_wp2
    exact ⟨⟨k + 1,by omega,by go_num,Hno.out,HB2.out⟩,by simp [intOf];omega⟩
  ·have hki:¬ (k:Int) < n:=by omega
   have hkk:k = l.length:=by rw [Hn.out];omega
   have hno:=HN.out
   rw [hkk,List.take_length] at hno
   have Hno:=hide hno
   clear hno hkk
   go_wp2
   go_ret
   exact ⟨by rw [Bk.posI_none Hno.out];rfl,HB.out⟩
theorem find_any (p base:Nat) (v:Value) (id:Int) (l:List Cv.Lot) (w:World) (hb:Hid (Book w base p v l)) (hn:Hid (l.length≤60)) :
  Calls Tryz.prog 166 #[.pointer (some ⟨p,0,none⟩),.int .i64 id] w fun e w'=>e = .returned (.int .i64 (Bk.posI l id))∧Below w.heap.size w w':=by
 have hcell:(w.alloc (.cells #[.int .i64 id] 3)).cell? ⟨p,0,none⟩ = some v:=cell_later ((Below.refl _ _).alloc (Nat.le_refl _) _) (cell_of_one hb.out.cell)
 rcases hb.out.form with ⟨rfl,hl⟩ | ⟨g,cap,rfl,hle,_,hl⟩
 ·have HL:=hide hl
  clear hl
  go_enter Tryz.func166,Tryz.ntmps166
  go_wp2_with fail
  refine (indexFunc_none 0 none _ _).mono ?_
  rintro e w2 ⟨rfl,rfl⟩
  simp only []
  go_wp2
  go_ret
  exact ⟨by rw [HL.out];rfl,(Below.refl _ _).alloc (Nat.le_refl _) _⟩
 ·have HC:=hide (indexFunc_at g 0 cap w.heap.size id l (w.alloc (.cells #[.int .i64 id] 3)) (by have:=hn.out;omega) (hl.later ((Below.refl _ _).alloc (Nat.le_refl _) _)) (by simp))
  clear hl hle
  go_enter Tryz.func166,Tryz.ntmps166
  go_wp2_with fail
  refine HC.out.mono ?_
  rintro e w2 ⟨rfl,hb2⟩
  have HB:=hide hb2
  clear hb2
  simp only []
  go_wp2
  go_ret
  exact ⟨rfl,((Below.refl _ _).alloc (Nat.le_refl _) _).trans (HB.out.mono (by simp))⟩
theorem newBook_any (w:World):Calls Tryz.prog 117 #[] w fun e w'=>e = .returned (.pointer (some ⟨w.heap.size,0,none⟩))∧w' = w.alloc (.cells #[.slice none 0 0] 139):=by
 go_enter Tryz.func117,Tryz.ntmps117
 go_wp2
 go_ret
 exact ⟨rfl,rfl⟩
end Go.Proofs.YtidahfhingdlmaaGreatDoor
