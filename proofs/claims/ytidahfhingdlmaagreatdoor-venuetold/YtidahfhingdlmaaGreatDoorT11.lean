/- slices.Delete of one lot, and remove, by their contracts. -/
import Derived.Test.YtidahfhingdlmaaGreatDoorT10
import Derived.Deep.RegionLaw
import Derived.Lib.SliceRun
import Derived.Lib.SmallJoins
import Derived.Deep.QuietTactic
import Derived.BigQuiet
namespace Go.Proofs.YtidahfhingdlmaaGreatDoor
open Go.RowKit
set_option maxRecDepth 100000
def zeros5:List Value:=lotCells Cv.z
theorem run_clear_lot (w:World) (ty:TypeId) (b o c:Nat) (hc:∀ j,j < 5→(w.cell? ⟨b,o + j,none⟩).isSome = true) (hf:∀ j,j < 5→w.frozen? ⟨b,o + j,none⟩ = false) :
  (Builtin.clear_ #[60] ty #[.slice (some ⟨b,o,none⟩) 1 c]).run Tryz.prog w = .ok (.tuple #[]) (w.setCells b o zeros5):=by
 have hzc:(Builtin.zeroCells (Value.agg #[.int .i64 0,.int .i64 0,.int .i64 0,.int .i64 0,.int .i64 0]).cells 1).toList = zeros5:=by kernel_rfl
 have hst:=run_storeCells_cells (P:=Tryz.prog) b o zeros5 0 w (fun j hj=>by simpa using hc j hj) (fun j hj=>by simpa using hf j hj) (by
  intro v hv
  simp only [zeros5,lotCells,List.mem_cons,List.not_mem_nil,or_false] at hv
  rcases hv with rfl | rfl | rfl | rfl | rfl <;> rfl)
 simp only [Nat.add_zero] at hst
 simp [Builtin.clear_,run_underlying Tryz.underlying60,hzc,hst]
theorem flat_append (a b:List Cv.Lot):flat (a++b) = flat a++flat b:=by simp [flat]
theorem flat_take (l:List Cv.Lot) (k:Nat) (h:k≤l.length):(flat l).take (k * 5) = flat (l.take k):=by
 have e:flat l = flat (l.take k)++flat (l.drop k):=by rw [← flat_append,List.take_append_drop]
 have hl:(flat (l.take k)).length = k * 5:=by rw [flat_length,List.length_take];congr 1;omega
 rw [e,← hl,List.take_left]
theorem flat_drop (l:List Cv.Lot) (k:Nat) (h:k≤l.length):(flat l).drop (k * 5) = flat (l.drop k):=by
 have e:flat l = flat (l.take k)++flat (l.drop k):=by rw [← flat_append,List.take_append_drop]
 have hl:(flat (l.take k)).length = k * 5:=by rw [flat_length,List.length_take];congr 1;omega
 rw [e,← hl,List.drop_left]
theorem row_open {w:World} {base:Nat} {e:TypeId} {s g n cap:Nat} {xs:List Value} (h:w.ownsRow base e s (.slice (some ⟨g,0,none⟩) n cap) n xs) (j:Nat) (hj:j < n * s):(w.cell? ⟨g,j,none⟩).isSome = true∧w.frozen? ⟨g,j,none⟩ = false∧w.cell? ⟨g,j,none⟩ = xs[j]?:=by
 rcases h.2 with ⟨e1,_⟩ | ⟨g',cap',cur,e1,hg,hgg,h1,h2,h3,h4⟩
 ·cases e1
 ·obtain ⟨rfl,rfl⟩:g = g'∧cap = cap':=by simpa using e1
  have hle:n * s≤cur.size:=by rw [h3];exact Nat.mul_le_mul_right _ h1
  have e2:w.cell? ⟨g,j,none⟩ = xs[j]?:=by
   rw [cell_of_row w g j cur e (0,0) hgg,← h4,List.getElem?_take_of_lt hj];simp
  have e3:(w.cell? ⟨g,j,none⟩).isSome = true:=by
   rw [cell_of_row w g j cur e (0,0) hgg];simp;omega
  exact ⟨e3,by simp [World.frozen?,hgg],e2⟩
set_option maxHeartbeats 1000000 in
theorem delete_any (g cap n i j base:Nat) (l:List Cv.Lot) (w:World) (hn:Hid (l.length = n)) (hrow:w.ownsRow base 137 5 (.slice (some ⟨g,0,none⟩) n cap) n (flat l)) (hj:Hid (j = i + 1)) (hjn:j≤n) (hij:i < j) (hcap:n≤cap) :
  Calls Tryz.prog 241 #[.slice (some ⟨g,0,none⟩) n cap,.int .i64 i,.int .i64 j] w fun e w'=>e = .returned (.slice (some ⟨g,0,none⟩) (n - 1) cap)∧w'.ownsRow base 137 5 (.slice (some ⟨g,0,none⟩) (n - 1) cap) (n - 1) (flat (Bk.del l i))∧w.grownBy w' (some g):=by
 obtain ⟨i0,z0,hi,hz0,hz1,hz2,hz3⟩:=info110
 have hne:¬ ((i:Int) = j):=by omega
 obtain ⟨news,hnews⟩:∃ news,news = flat (l.drop j):=⟨_,rfl⟩
 have hlen:news.length = (n - j) * 5:=by rw [hnews,flat_length,List.length_drop,hn.out]
 have hget:∀ t u,news[t]? = some u→w.cell? ⟨g,j * 5 + t,none⟩ = some u:=by
  intro t u hu
  have ht:t < (n - j) * 5:=by
   have:=(List.getElem?_eq_some_iff.1 hu).1
   rwa [hlen] at this
  rw [(row_open hrow (j * 5 + t) (by omega)).2.2]
  rw [hnews,← flat_drop l j (by rw [hn.out];exact hjn),List.getElem?_drop] at hu
  exact hu
 obtain ⟨A,hA,hsrc⟩:∃ A:Addr,(if cap = j then some (⟨g,0,none⟩:Addr) else some ⟨g,j * 5,none⟩) = some A∧Hid (∀ t u,news[t]? = some u→w.drew.cell? (A.add t) = some u):=by
  by_cases h:cap = j
  ·refine ⟨⟨g,0,none⟩,by simp [h],fun t u hu=>?_⟩
   have h0:news.length = 0:=by rw [hlen];omega
   rw [List.length_eq_zero_iff.1 h0] at hu
   simp at hu
  ·refine ⟨⟨g,j * 5,none⟩,by simp [h],fun t u hu=>?_⟩
   rw [Addr.add_lit]
   exact hget t u hu
 have s1:Hid (news.length = (n - j) * 5):=hlen
 have s2:Hid (∀ u∈news,u.oneCell' = true):=by
  intro u hu
  rw [hnews] at hu
  exact flat_one _ u hu
 have s3:Hid (∀ t,t < news.length→(w.drew.cell? ⟨g,0 + i * 5 + t,none⟩).isSome = true∧w.drew.frozen? ⟨g,0 + i * 5 + t,none⟩ = false):=by
  intro t ht
  rw [hlen] at ht
  have h:=row_open hrow (0 + i * 5 + t) (by omega)
  exact ⟨h.1,h.2.1⟩
 have hrowd:w.drew.ownsRow base 137 5 (.slice (some ⟨g,0,none⟩) n cap) n (flat l):=hrow
 obtain ⟨W1,hW1⟩:∃ W1,W1 = w.drew.setCells g (0 + i * 5) news:=⟨_,rfl⟩
 have hfl:(flat l).length = n * 5:=by rw [flat_length,hn.out]
 -- the row behind the append: as long as it was
 obtain ⟨ys,hys⟩:∃ ys,ys = (flat l).take (0 + i * 5)++news++(flat l).drop (0 + i * 5 + news.length):=⟨_,rfl⟩
 have hyl:ys.length = n * 5:=by
  rw [hys]
  simp only [List.length_append,List.length_take,List.length_drop,hlen,hfl];omega
 have hr1:W1.ownsRow base 137 5 (.slice (some ⟨g,0,none⟩) n cap) n ys:=by
  rw [hW1]
  exact row_setCells hrowd _ news n hcap (by rw [hlen];omega) ys hyl (Nat.le_refl _) (by rw [← hys];exact List.take_of_length_le (by omega))
 have hcl:∀ ty,(Builtin.clear_ #[60] ty #[.slice (some ⟨g,(i + (n - j)) * 5,none⟩) (n - (i + (n - j))) (cap - (i + (n - j)))]).run Tryz.prog W1 = .ok (.tuple #[]) (W1.setCells g ((i + (n - j)) * 5) zeros5):=by
  intro ty
  rw [show n - (i + (n - j)) = 1 by have:=hj.out;omega]
  exact run_clear_lot W1 ty g _ _ (fun t ht=>(row_open hr1 _ (by have:=hj.out;omega)).1) (fun t ht=>(row_open hr1 _ (by have:=hj.out;omega)).2.1)
 have HR:Hid ((W1.setCells g ((i + (n - j)) * 5) zeros5).ownsRow base 137 5 (.slice (some ⟨g,0,none⟩) (n - 1) cap) (n - 1) (flat (Bk.del l i))):=by
  have hd:(Bk.del l i).length = n - 1:=by rw [Bk.del_length (by rw [hn.out];omega),hn.out]
  refine row_setCells hr1 _ zeros5 (n - 1) (by omega) (by show _ + 5≤_;have:=hj.out;omega) _ (by rw [flat_length,hd]) (by omega) ?_
  have e1:(i + (n - j)) * 5 = (n - 1) * 5:=by have:=hj.out;congr 1;omega
  rw [e1,List.append_assoc,List.take_append_of_le_length (by rw [List.length_take,hyl];omega),List.take_take,Nat.min_self,hys]
  rw [List.take_append_of_le_length (by simp only [List.length_append,List.length_take,hlen,hfl];have:=hj.out;omega),List.take_of_length_le (by simp only [List.length_append,List.length_take,hlen,hfl];have:=hj.out;omega)]
  rw [hnews,Nat.zero_add,flat_take l i (by rw [hn.out];omega),← flat_append,hj.out]
  rfl
 have HG:Hid (w.grownBy (W1.setCells g ((i + (n - j)) * 5) zeros5) (some g)):=by
  have o1:=Only.setCells w.drew g news (0 + i * 5) none
  rw [← hW1] at o1
  have o2:=o1.trans (Only.setCells W1 g zeros5 ((i + (n - j)) * 5) none) (fun k h=>.inl h)
  exact ⟨o2.os,o2.tape,o2.output,o2.size,fun k hk h=>o2.block k hk (by simp) h⟩
 have hW:Hid (W1 = w.drew.setCells g (0 + i * 5) news):=hW1
 have HI:=hide hi;have HZ:=hide hz1
 have hic:i≤cap:=by omega
 have hjc:j≤cap:=by omega
 clear hW1 hr1 hys hyl hfl hrowd hget hnews hlen hrow hi hz0 hz1 hz2 hz3
 go_enter Tryz.func241,Tryz.ntmps241
 go_wp2_with fail
 go_region_law (refine step_append_room rfl (.tmp 22) (.tmp 25) 60 rfl 137 i0 5 Tryz.underlying60 HI.out HZ.out g 0 i cap (by simp [Act.eval,Act.put]) A (n - j) (cap - j) news (by simp [Act.eval,Act.put]) s1.out hsrc.out s2.out (by omega) s3.out ?_;rw [← hW.out])
 go_wp2
 go_ret
 exact ⟨by rw [show n - 1 = i + (n - j) by have:=hj.out;omega];rfl,HR.out,HG.out⟩
theorem Book.set {w w2:World} {base p:Nat} {v v':Value} {l l':List Cv.Lot} (h:Book w base p v l) (hg:w.grownBy w2 v.ownBlock) (hr:w2.ownsRow base 137 5 v' l'.length (flat l')) (hn:∀ k,v'.ownBlock = some k→v.ownBlock = some k∨w.heap.size≤k) :
  Book (w2.setCell ⟨p,0,none⟩ v') base p v' l'∧Step w (w2.setCell ⟨p,0,none⟩ v') p v v':=by
 have hc:w2.heap[p]? = some (.cells #[v] 139 (0,0)):=by rw [hg.block p h.lt (fun e=>h.ne e.symm)];exact h.cell
 have h3:v'.ownBlock≠some p:=by
  intro e
  rcases hr.2 with ⟨e1,_⟩ | ⟨r,cap,cur,e1,_,hr2,_⟩
  ·rw [e1] at e;cases e
  ·rw [e1] at e
   have:r = p:=by simpa [Value.ownBlock] using e
   rw [this,hc] at hr2
   cases hr2
 refine ⟨⟨one_setCell hc,h.lo,ownsRow_setCell_other hr h3 _⟩,⟨?_,hn⟩⟩
 exact (Only.of_grown hg (some p)).trans (Only.setCell w2 p 0 v' v.ownBlock) (fun k e=>.inl e)
theorem Book.openAt {w w2:World} {base p:Nat} {v:Value} {l:List Cv.Lot} (h:Book w base p v l) (hg:w.grownBy w2 v.ownBlock):w2.cell? ⟨p,0,none⟩ = some v∧w2.frozen? ⟨p,0,none⟩ = false:=by
 have hc:w2.heap[p]? = some (.cells #[v] 139 (0,0)):=by rw [hg.block p h.lt (fun e=>h.ne e.symm)];exact h.cell
 exact ⟨cell_of_one hc,free_of_one hc⟩
theorem remove_any (p base k:Nat) (v:Value) (l:List Cv.Lot) (w:World) (hb:Hid (Book w base p v l)) (hk:k < l.length) (hn:Hid (l.length≤60)) :
  Calls Tryz.prog 222 #[.pointer (some ⟨p,0,none⟩),.int .i64 k] w fun e w'=>e = .returned (.tuple #[])∧∃ v',Book w' base p v' (Bk.del l k)∧Step w w' p v v':=by
 have hcell:=cell_of_one hb.out.cell
 rcases hb.out.form with ⟨_,hl⟩ | ⟨g,cap,rfl,hle,_,_⟩
 ·rw [hl] at hk;exact absurd hk (Nat.not_lt_zero _)
 obtain ⟨n,hnn⟩:∃ n,l.length = n:=⟨_,rfl⟩
 have Hl:=hide hnn
 have HD:=hide (delete_any g cap n k (k + 1) base l w hnn (by rw [← hnn];exact hb.out.row) rfl (by omega) (by omega) (by omega))
 have HL60:Hid (n≤60):=by rw [← hnn];exact hn.out
 rw [hnn] at hcell hk hle ⊢
 clear hnn
 have hk60:k < 60:=by have:=HL60.out;omega
 have hkk:((k + 1:Nat):Int) = (k:Int) + 1:=by omega
 rw [hkk] at HD
 go_enter Tryz.func222,Tryz.ntmps222
 go_wp2_with fail
 refine HD.out.mono ?_
 rintro e w2 ⟨rfl,hrow,hg⟩
 obtain ⟨k1,k2⟩:=hb.out.openAt (w2:=w2) (by rw [Hl.out];exact hg)
 have HR:=hide hrow;have HG:=hide hg
 clear hrow hg hcell
 rw [Hl.out] at k1
 simp only []
 go_wp2
 go_end0
 have hd:(Bk.del l k).length = n - 1:=by rw [Bk.del_length (by rw [Hl.out];exact hk),Hl.out]
 have hb':=hb.out
 rw [Hl.out] at hb'
 exact ⟨rfl,_,hb'.set HG.out (by rw [hd];exact HR.out) (fun k h=>.inl h)⟩
set_option maxHeartbeats 1000000 in
theorem clone_any (v:Value) (base n:Nat) (l:List Cv.Lot) (w:World) (hn:Hid (l.length = n)) (hn':n≤1000) (hr:Hid (w.ownsRow base 137 5 v n (flat l))) :
  Calls Tryz.prog 64 #[v] w fun e w'=>∃ v2,e = .returned v2∧w'.ownsRow w.heap.size 137 5 v2 n (flat l)∧Below w.heap.size w w':=by
 have q22:∀ (w:World) (a:Option Addr) (n c n' c':Nat),(binOp .eql 60 (.slice a n c) (.slice none n' c')).run Tryz.prog w = .ok (.bool a.isNone) w:=fun w a n c n' c'=>Lib.run_eql_slice_nil w _ _ a n c n' c' Tryz.underlying60
 rcases hr.out.2 with ⟨rfl,h0⟩ | ⟨g,cap,cur,rfl,_⟩
 ·have HE:Hid (flat l = []∧n = 0):=⟨by rw [show l = [] from List.eq_nil_of_length_eq_zero (by rw [hn.out];exact h0)];rfl,h0⟩
  clear h0
  go_enter Tryz.func64,Tryz.ntmps64
  go_wp2
  go_ret
  exact ⟨_,rfl,by rw [HE.out.1,HE.out.2];exact World.ownsRow_nil _ _ _ _,Below.refl _ _⟩
 ·obtain ⟨i0,z0,hi,hz0,hz1,hz2,hz3⟩:=info110
  have Hi:=hide hi;have Hz0:=hide hz0;have Hz1:=hide hz1;have Hz2:=hide hz2;have Hz3:=hide hz3
  clear hi hz0 hz1 hz2 hz3
  go_enter Tryz.func64,Tryz.ntmps64
  go_wp2_with (at_builtin;refine wpList_append_own _ rfl _ _ 60 rfl w.heap.size 137 i0 z0 5 40 Tryz.underlying60 Hi.out Hz0.out Hz1.out Hz2.out Hz3.out (by decide) _ _ _ rfl (World.ownsRow_made w #[] 0 (Nat.le_refl _) (Nat.zero_le _) (by simp)) ⟨g,0,none⟩ n cap (flat l) rfl (by rw [flat_length,hn.out]) (fun j u hj=>cell_later ((Below.refl _ _).alloc (Nat.le_refl _) _) (World.ownsRow.cells hr.out (g:=g) rfl j u hj)) (flat_one l) (by unfold maxLen;omega) (by omega) (by simp) ?_)
  intro v2 w1 hown hgrow hnil
  have HO:Hid (w1.ownsRow w.heap.size 137 5 v2 n (flat l)):=by
   show World.ownsRow _ _ _ _ _ _ _
   simpa using hown
  have HB:Hid (Below w.heap.size w w1):=((Below.refl _ w).alloc (Nat.le_refl _) _).grown hgrow (by simp) (by intro k hk;simp [Value.ownBlock] at hk;omega)
  clear hown hgrow hnil
  go_wp2
  go_ret
  exact ⟨v2,rfl,HO.out,HB.out⟩
theorem lots_any (p base:Nat) (v:Value) (l:List Cv.Lot) (w:World) (hb:Hid (Book w base p v l)) (hn:Hid (l.length≤60)) :
  Calls Tryz.prog 23 #[.pointer (some ⟨p,0,none⟩)] w fun e w'=>∃ v2,e = .returned v2∧w'.ownsRow w.heap.size 137 5 v2 l.length (flat l)∧Below w.heap.size w w':=by
 have hcell:=cell_of_one hb.out.cell
 have HC:=hide (clone_any v base l.length l w rfl (by have:=hn.out;omega) hb.out.row)
 obtain ⟨a,m,c,rfl⟩:∃ a m c,v = .slice a m c:=by
  rcases hb.out.form with ⟨e,_⟩ | ⟨g,cap,e,_⟩
  ·exact ⟨_,_,_,e⟩
  ·exact ⟨_,_,_,e⟩
 go_enter Tryz.func23,Tryz.ntmps23
 go_wp2_with fail
 refine HC.out.mono ?_
 rintro e w2 ⟨v2,rfl,hr2,hb2⟩
 have HR:=hide hr2;have HB:=hide hb2
 clear hr2 hb2 hcell
 simp only []
 go_wp2
 go_ret
 exact ⟨v2,rfl,HR.out,HB.out⟩
def Bk.getX (l:List Cv.Lot) (id:Int):Cv.Lot:=if Cv.has l id = true then Cv.nth l (Bk.pos l id) else Cv.z
set_option maxHeartbeats 1000000 in
theorem get_any (p base:Nat) (v:Value) (id:Int) (l:List Cv.Lot) (w:World) (hb:Hid (Book w base p v l)) (hn:Hid (l.length≤60)) :
  Calls Tryz.prog 134 #[.pointer (some ⟨p,0,none⟩),.int .i64 id] w fun e w'=>e = .returned (.tuple #[lotV (Bk.getX l id),.bool (Cv.has l id)])∧Below w.heap.size w w':=by
 have HF:=hide (find_any p base v id l (w.alloc (.cells #[.int .i64 0,.int .i64 0,.int .i64 0,.int .i64 0,.int .i64 0] 137)) (hb.out.later ((Below.refl _ _).alloc (Nat.le_refl _) _)) hn)
 go_enter Tryz.func134,Tryz.ntmps134
 go_wp2_with fail
 refine HF.out.mono ?_
 rintro e w2 ⟨rfl,hb2⟩
 have hB2:Below w.heap.size w w2:=((Below.refl _ _).alloc (Nat.le_refl _) _).trans (hb2.mono (by simp))
 have HB:=hide hB2
 have HP:Hid (∀ j,j < 5→w2.cell? ⟨w.heap.size,j,none⟩ = some (.int .i64 0)∧w2.frozen? ⟨w.heap.size,j,none⟩ = false):=fun j hj=>by
  have e:=hb2.block w.heap.size (by simp)
  rw [heap_alloc_new] at e
  refine ⟨?_,by simp [World.frozen?,e]⟩
  simp only [World.cell?,e]
  have:j = 0∨j = 1∨j = 2∨j = 3∨j = 4:=by omega
  rcases this with rfl | rfl | rfl | rfl | rfl <;> rfl
 have HK:=hide (hb.out.later hB2)
 have ⟨a0,f0⟩:=HP.out 0 (by decide);have ⟨a1,f1⟩:=HP.out 1 (by decide);have ⟨a2,f2⟩:=HP.out 2 (by decide);have ⟨a3,f3⟩:=HP.out 3 (by decide);have ⟨a4,f4⟩:=HP.out 4 (by decide)
 clear hb2 hB2 HF
 cases hh:Cv.has l id with
 | false =>
  have Hh:=hide hh
  rw [Bk.posI_none hh]
  clear hh
  simp only []
  go_wp2
  refine bodyPost_ret (v:=.tuple #[lotV Cv.z,.bool false]) (by simp [results,Tryz.results134,go_sem,lotV,Cv.z,a0,a1,a2,a3,a4]) rfl ⟨?_,?_⟩
  ·rw [show Bk.getX l id = Cv.z by unfold Bk.getX;rw [Hh.out];rfl,Hh.out]
  ·exact ((((HB.out.setCell (Nat.le_refl _) _).setCell (Nat.le_refl _) _).setCell (Nat.le_refl _) _).setCell (Nat.le_refl _) _).setCell (Nat.le_refl _) _
 | true =>
  have Hh:=hide hh
  rw [Bk.posI_some hh]
  have hk:=Bk.posI_lt hh
  clear hh
  have hcell:=cell_of_one HK.out.cell
  rcases HK.out.form with ⟨_,hl⟩ | ⟨g,cap,rfl,hle,_,hl⟩
  ·rw [hl] at hk;exact absurd hk (Nat.not_lt_zero _)
  obtain ⟨c0,c1,c2,c3,c4⟩:=hl _ hk
  have HX:Hid (Bk.getX l id = Cv.nth l (Bk.pos l id)):=by show _ = _;unfold Bk.getX;rw [if_pos Hh.out]
  have h60:l.length≤60:=hn.out
  obtain ⟨x,hx⟩:∃ x,Cv.nth l (Bk.pos l id) = x:=⟨_,rfl⟩
  rw [hx] at HX c0 c1 c2 c3 c4
  clear hx
  generalize Bk.pos l id = k at *
  obtain ⟨n,hnn⟩:∃ n,l.length = n:=⟨_,rfl⟩
  rw [hnn] at hk hcell h60
  have hg:g < w2.heap.size:=World.block_lt_of_cell? _ _ c0
  have hki:(k:Int) < n:=by omega
  simp only [Nat.zero_add] at c0 c1 c2 c3 c4
  clear hl hle hnn HK
  simp only []
  go_wp2
  refine bodyPost_ret (v:=.tuple #[lotV x,.bool true]) (by simp [results,Tryz.results134,go_sem,lotV,a0,a1,a2,a3,a4]) rfl ⟨?_,?_⟩
  ·rw [Hh.out,HX.out]
  ·exact ((((HB.out.setCell (Nat.le_refl _) _).setCell (Nat.le_refl _) _).setCell (Nat.le_refl _) _).setCell (Nat.le_refl _) _).setCell (Nat.le_refl _) _
structure Er4 (w:World) (T:TypeId) (v1 v5 v6 v7:Value):Prop where
 er:Er w T v1 v6 v7
 c5:w.cell? ⟨7,0,none⟩ = some (.iface T v5)
theorem Er4.later {w w':World} {T:TypeId} {v1 v5 v6 v7:Value} (h:Er4 w T v1 v5 v6 v7) (hb:Below w.heap.size w w'):Er4 w' T v1 v5 v6 v7:=⟨h.er.later hb,cell_later hb h.c5⟩
def errOf (T:TypeId) (v1 v5 v6 v7:Value):Nat→Value
 | 0=>.nilIface
 | 1=>.iface T v1
 | 2=>.iface T v6
 | 3=>.iface T v7
 | _=>.iface T v5
theorem Step.setNew {w w':World} {p b:Nat} {v v':Value} (h:Step w w' p v v') (hb:w.heap.size≤b) (o:Nat) (u:Value):Step w (w'.setCell ⟨b,o,none⟩ u) p v v' :=
 ⟨⟨h.only.os,h.only.tape,h.only.output,by simpa using h.only.size,fun k hk h1 h2=>by
  rw [Below.heap_setCell _ _ _ _ (by show k≠b;omega)];exact h.only.block k hk h1 h2⟩,h.new⟩
theorem Book.setOther {w:World} {base p b:Nat} {v:Value} {l:List Cv.Lot} (h:Book w base p v l) (hp:b≠p) (hv:v.ownBlock≠some b) (o:Nat) (u:Value):Book (w.setCell ⟨b,o,none⟩ u) base p v l :=
 ⟨by rw [Below.heap_setCell _ _ _ _ (by show p≠b;omega)];exact h.cell,h.lo,ownsRow_setCell_other h.row hv u⟩
theorem below_drew' {B:Nat} {w w':World} (h:Below B w w'):Below B w w'.drew:=⟨h.os,h.tape,h.output,h.size,h.block⟩
set_option maxHeartbeats 1000000 in
theorem cancel_any (p base:Nat) (v:Value) (id:Int) (l:List Cv.Lot) (T:TypeId) (v1 v5 v6 v7:Value) (w:World) (he:Hid (Er4 w T v1 v5 v6 v7)) (hb:Hid (Book w base p v l)) (hn:Hid (l.length≤60)) :
  Calls Tryz.prog 183 #[.pointer (some ⟨p,0,none⟩),.int .i64 id] w fun e w'=>e = .returned (.tuple #[lotV (Bk.canX l id),errOf T v1 v5 v6 v7 (Bk.canC l id)])∧∃ v',Book w' base p v' (Bk.canL l id)∧Step w w' p v v':=by
 have HF:=hide (find_any p base v id l (w.alloc (.cells #[.int .i64 0,.int .i64 0,.int .i64 0,.int .i64 0,.int .i64 0] 137)) (hb.out.later ((Below.refl _ _).alloc (Nat.le_refl _) _)) hn)
 go_enter Tryz.func183,Tryz.ntmps183
 go_wp2_with fail
 refine HF.out.mono ?_
 rintro e w2 ⟨rfl,hb2⟩
 have hB2:Below w.heap.size w w2:=((Below.refl _ _).alloc (Nat.le_refl _) _).trans (hb2.mono (by simp))
 have HB:=hide hB2
 have h43:w2.heap[w.heap.size]? = some (.cells #[.int .i64 0,.int .i64 0,.int .i64 0,.int .i64 0,.int .i64 0] 137 (0,0)):=by
  have e:=hb2.block w.heap.size (by simp)
  rw [heap_alloc_new] at e
  exact e
 have H43:=hide h43
 have HK:=hide (hb.out.later hB2)
 have HE:=hide (he.out.later hB2)
 clear hb2 hB2 HF h43
 cases hh:Cv.has l id with
 | false =>
  have Hh:=hide hh
  rw [Bk.posI_none hh]
  have HC:Hid (Bk.canC l id = 4∧Bk.canL l id = l∧Bk.canX l id = Cv.z):=by
   have e:Bk.canC l id = 4:=by unfold Bk.canC;rw [hh];rfl
   exact ⟨e,by unfold Bk.canL;rw [e];rfl,by unfold Bk.canX;rw [e];rfl⟩
  clear hh
  have c5:=HE.out.c5
  have cs:∀ j,j < 5→w2.cell? ⟨w.heap.size,j,none⟩ = some (.int .i64 0)∧w2.frozen? ⟨w.heap.size,j,none⟩ = false:=fun j hj=>by
   refine ⟨?_,by simp [World.frozen?,H43.out]⟩
   simp only [World.cell?,H43.out]
   have:j = 0∨j = 1∨j = 2∨j = 3∨j = 4:=by omega
   rcases this with rfl | rfl | rfl | rfl | rfl <;> rfl
  have ⟨a0,f0⟩:=cs 0 (by decide);have ⟨a1,f1⟩:=cs 1 (by decide);have ⟨a2,f2⟩:=cs 2 (by decide);have ⟨a3,f3⟩:=cs 3 (by decide);have ⟨a4,f4⟩:=cs 4 (by decide)
  clear cs
  have h3:¬ (7 = w.heap.size):=fun e=>by
   have h:=he.out.c5
   have:=World.block_lt_of_cell? _ _ h
   simp at this
   omega
  simp only []
  go_wp2
  go_region
  go_wp2
  refine bodyPost_ret (v:=.tuple #[lotV Cv.z,.iface T v5]) (by simp [results,Tryz.results183,go_sem,lotV,Cv.z,a0,a1,a2,a3,a4]) rfl ⟨?_,?_⟩
  ·rw [HC.out.1,HC.out.2.2];rfl
  ·have hb5:Below w.heap.size w (((((w2.setCell ⟨w.heap.size,0,none⟩ (.int .i64 0)).setCell ⟨w.heap.size,1,none⟩ (.int .i64 0)).setCell ⟨w.heap.size,2,none⟩ (.int .i64 0)).setCell ⟨w.heap.size,3,none⟩ (.int .i64 0)).setCell ⟨w.heap.size,4,none⟩ (.int .i64 0)).drew :=
    below_drew' (((((HB.out.setCell (Nat.le_refl _) _).setCell (Nat.le_refl _) _).setCell (Nat.le_refl _) _).setCell (Nat.le_refl _) _).setCell (Nat.le_refl _) _)
   exact ⟨v,by rw [HC.out.2.1];exact hb.out.later hb5,Step.of_below hb5 p v⟩
 | true =>
  have Hh:=hide hh
  rw [Bk.posI_some hh]
  have hk:=Bk.posI_lt hh
  have HC:Hid (Bk.canC l id = 0∧Bk.canL l id = Bk.del l (Bk.pos l id)∧Bk.canX l id = Cv.nth l (Bk.pos l id)):=by
   have e:Bk.canC l id = 0:=by unfold Bk.canC;rw [hh];rfl
   exact ⟨e,by unfold Bk.canL;rw [if_pos e],by unfold Bk.canX;rw [if_pos e]⟩
  clear hh
  have hcell:=cell_of_one HK.out.cell
  rcases HK.out.form with ⟨_,hl⟩ | ⟨g,cap,rfl,hle,_,hl⟩
  ·rw [hl] at hk;exact absurd hk (Nat.not_lt_zero _)
  obtain ⟨c0,c1,c2,c3,c4⟩:=hl _ hk
  have h60:l.length≤60:=hn.out
  have HRM:=fun X=>remove_any p base (Bk.pos l id) _ l (w2.alloc (.cells X 137)) (HK.out.later ((Below.refl _ _).alloc (Nat.le_refl _) _)) hk hn
  have HRM:=hide HRM
  obtain ⟨x,hx⟩:∃ x,Cv.nth l (Bk.pos l id) = x:=⟨_,rfl⟩
  rw [hx] at HC c0 c1 c2 c3 c4
  clear hx
  generalize Bk.pos l id = k at *
  have Hgp:Hid (p < w.heap.size∧g < w.heap.size):=⟨hb.out.lt,(hb.out.rowLt g rfl).2⟩
  have hg:g < w2.heap.size:=World.block_lt_of_cell? _ _ c0
  obtain ⟨n,hnn⟩:∃ n,l.length = n:=⟨_,rfl⟩
  rw [hnn] at hk hcell h60
  have hki:(k:Int) < n:=by omega
  simp only [Nat.zero_add] at c0 c1 c2 c3 c4
  have Hnn:=hide hnn
  clear hl hle hnn
  simp only []
  go_wp2_with fail
  refine (HRM.out _).mono ?_
  rintro e w3 ⟨rfl,v3,hk3,hs3⟩
  have hsz:=HB.out.size
  have h43':w3.heap[w.heap.size]? = some (.cells #[.int .i64 0,.int .i64 0,.int .i64 0,.int .i64 0,.int .i64 0] 137 (0,0)):=by
   rw [hs3.only.block _ (by have:=lt_of_block H43.out;simp;omega) (fun e=>by have:=Hgp.out.1;simp at e;omega) (fun e=>by have:=Hgp.out.2;simp [Value.ownBlock] at e;omega),heap_alloc_old _ _ (lt_of_block H43.out)]
   exact H43.out
  have h7:w3.heap[w2.heap.size]? = some (.cells #[.int .i64 x.id,.int .i64 x.ow,.int .i64 x.sd,.int .i64 x.pr,.int .i64 x.q] 137 (0,0)):=by
   rw [hs3.only.block _ (by simp) (fun e=>by have:=Hgp.out.1;simp at e;omega) (fun e=>by have:=Hgp.out.2;simp [Value.ownBlock] at e;omega),heap_alloc_new]
  have cs:∀ j,j < 5→w3.cell? ⟨w.heap.size,j,none⟩ = some (.int .i64 0)∧w3.frozen? ⟨w.heap.size,j,none⟩ = false:=fun j hj=>by
   refine ⟨?_,by simp [World.frozen?,h43']⟩
   simp only [World.cell?,h43']
   have:j = 0∨j = 1∨j = 2∨j = 3∨j = 4:=by omega
   rcases this with rfl | rfl | rfl | rfl | rfl <;> rfl
  have ⟨a0,f0⟩:=cs 0 (by decide);have ⟨a1,f1⟩:=cs 1 (by decide);have ⟨a2,f2⟩:=cs 2 (by decide);have ⟨a3,f3⟩:=cs 3 (by decide);have ⟨a4,f4⟩:=cs 4 (by decide)
  have b0:w3.cell? ⟨w2.heap.size,0,none⟩ = some (.int .i64 x.id):=by simp [World.cell?,h7]
  have b1:w3.cell? ⟨w2.heap.size,1,none⟩ = some (.int .i64 x.ow):=by simp [World.cell?,h7]
  have b2:w3.cell? ⟨w2.heap.size,2,none⟩ = some (.int .i64 x.sd):=by simp [World.cell?,h7]
  have b3:w3.cell? ⟨w2.heap.size,3,none⟩ = some (.int .i64 x.pr):=by simp [World.cell?,h7]
  have b4:w3.cell? ⟨w2.heap.size,4,none⟩ = some (.int .i64 x.q):=by simp [World.cell?,h7]
  have HS3:=hide hs3;have HK3:=hide hk3
  have HLT:=hide (lt_of_block h43')
  clear cs hs3 hk3 h7 h43' hcell c0 c1 c2 c3 c4 hsz
  simp only []
  go_wp2
  refine bodyPost_ret (v:=.tuple #[lotV x,.nilIface]) (by simp [results,Tryz.results183,go_sem,lotV,a0,a1,a2,a3,a4]) rfl ⟨?_,?_⟩
  ·rw [HC.out.1,HC.out.2.2];rfl
  ·have hst:=(Step.of_below ((HB.out.alloc HB.out.size (.cells #[.int .i64 x.id,.int .i64 x.ow,.int .i64 x.sd,.int .i64 x.pr,.int .i64 x.q] 137))) p _).trans HS3.out
   have hne:v3.ownBlock≠some w.heap.size:=fun e=>by
    rcases HS3.out.new _ e with h | h
    ·have:=Hgp.out.2;simp [Value.ownBlock] at h;omega
    ·have:=lt_of_block H43.out;simp at h;omega
   have hnp:w.heap.size≠p:=by have:=Hgp.out.1;omega
   refine ⟨v3,?_,((((hst.setNew (Nat.le_refl _) _ _).setNew (Nat.le_refl _) _ _).setNew (Nat.le_refl _) _ _).setNew (Nat.le_refl _) _ _).setNew (Nat.le_refl _) _ _⟩
   rw [HC.out.2.1]
   exact ((((HK3.out.setOther hnp hne _ _).setOther hnp hne _ _).setOther hnp hne _ _).setOther hnp hne _ _).setOther hnp hne _ _
theorem flat_put {l:List Cv.Lot} {k:Nat} (hk:k < l.length) (x:Cv.Lot):flat (Bk.put l k x) = (flat l).take (k * 5)++lotCells x++(flat l).drop (k * 5 + 5):=by
 unfold Bk.put
 rw [flat_append,flat_take l k (by omega),show k * 5 + 5 = (k + 1) * 5 by omega,flat_drop l (k + 1) (by omega)]
 simp [flat]
theorem flat_split {l:List Cv.Lot} {k:Nat} (hk:k < l.length):flat l = (flat l).take (k * 5)++lotCells (Cv.nth l k)++(flat l).drop (k * 5 + 5):=by
 have e:=Bk.split_at hk
 rw [← flat_put hk,Bk.put,← e]
theorem Book.less {w:World} {base p g cap:Nat} {l:List Cv.Lot} (h:Book w base p (.slice (some ⟨g,0,none⟩) l.length cap) l) {k:Nat} (hk:k < l.length) (q:Int) :
  Book (w.setCell ⟨g,k * 5 + 4,none⟩ (.int .i64 ((Cv.nth l k).q - q))) base p (.slice (some ⟨g,0,none⟩) l.length cap) (Bk.put l k (Bk.less (Cv.nth l k) q))∧Step w (w.setCell ⟨g,k * 5 + 4,none⟩ (.int .i64 ((Cv.nth l k).q - q))) p (.slice (some ⟨g,0,none⟩) l.length cap) (.slice (some ⟨g,0,none⟩) l.length cap):=by
 have hr:=row_setCells h.row (k * 5 + 4) [.int .i64 ((Cv.nth l k).q - q)] l.length (by
  rcases h.row.2 with ⟨e,_⟩ | ⟨g',cap',cur,e,_,_,hc,_⟩
  ·cases e
  ·obtain ⟨_,rfl⟩:g = g'∧cap = cap':=by simpa using e
   exact hc) (by show k * 5 + 4 + 1≤_;omega) (flat (Bk.put l k (Bk.less (Cv.nth l k) q))) (by rw [flat_length,Bk.put_length hk]) (Nat.le_refl _) (by
  rw [List.take_of_length_le (by simp only [List.length_append,List.length_take,List.length_drop,flat_length,List.length_cons,List.length_nil];omega)]
  have hl:((flat l).take (k * 5)).length = k * 5:=by rw [List.length_take,flat_length];omega
  have e1:(flat l).take (k * 5 + 4) = (flat l).take (k * 5)++[.int .i64 (Cv.nth l k).id,.int .i64 (Cv.nth l k).ow,.int .i64 (Cv.nth l k).sd,.int .i64 (Cv.nth l k).pr]:=by
   have e:=flat_split hk
   generalize (flat l).drop (k * 5 + 5) = D at *
   have e2:(flat l).take (k * 5 + 4) = ((flat l).take (k * 5)++lotCells (Cv.nth l k)++D).take (k * 5 + 4):=by rw [← e]
   generalize (flat l).take (k * 5) = A at *
   rw [e2,List.append_assoc,List.take_append,hl]
   simp [lotCells,hl,List.take_of_length_le]
  rw [e1,flat_put hk]
  simp [lotCells,Bk.less])
 have hs:w.setCells g (k * 5 + 4) [.int .i64 ((Cv.nth l k).q - q)] = w.setCell ⟨g,k * 5 + 4,none⟩ (.int .i64 ((Cv.nth l k).q - q)):=rfl
 rw [hs] at hr
 have hgp:g≠p:=fun e=>h.ne (by rw [e];rfl)
 refine ⟨⟨by rw [Below.heap_setCell _ _ _ _ (by show p≠g;omega)];exact h.cell,h.lo,by rw [Bk.put_length hk];exact hr⟩,⟨(Only.setCell w g _ _ (some p)).swap,fun k h=>.inl h⟩⟩
theorem Bk.del_put {l:List Cv.Lot} {k:Nat} (hk:k < l.length) (x:Cv.Lot):Bk.del (Bk.put l k x) k = Bk.del l k:=by
 have hl:(l.take k).length = k:=by rw [List.length_take];omega
 unfold Bk.del Bk.put
 congr 1
 ·rw [List.take_append_of_le_length (by omega),List.take_of_length_le (by omega)]
 ·rw [List.drop_append,hl,List.drop_of_length_le (by omega),show k + 1 - k = 1 by omega]
  rfl
set_option maxHeartbeats 1000000 in
theorem take_any (p base:Nat) (v:Value) (id q:Int) (l:List Cv.Lot) (T:TypeId) (v1 v5 v6 v7:Value) (w:World) (he:Hid (Er4 w T v1 v5 v6 v7)) (hb:Hid (Book w base p v l)) (hgood:Hid (Bk.Good l)) :
  Calls Tryz.prog 203 #[.pointer (some ⟨p,0,none⟩),.int .i64 id,.int .i64 q] w fun e w'=>e = .returned (errOf T v1 v5 v6 v7 (Bk.takC l id q))∧∃ v',Book w' base p v' (Bk.takL l id q)∧Step w w' p v v':=by
 have hn:Hid (l.length≤60):=hgood.out.len
 go_enter Tryz.func203,Tryz.ntmps203
 go_wp2_with fail
 refine (find_any p base v id l w hb hn).mono ?_
 rintro e w2 ⟨rfl,hb2⟩
 have HB:=hide hb2
 have HK:=hide (hb.out.later hb2)
 have HE:=hide (he.out.later hb2)
 clear hb2
 cases hh:Cv.has l id with
 | false =>
  rw [Bk.posI_none hh]
  have HC:Hid (Bk.takC l id q = 4∧Bk.takL l id q = l):=by
   have e:Bk.takC l id q = 4:=by unfold Bk.takC;rw [hh];rfl
   exact ⟨e,by unfold Bk.takL;rw [e];rfl⟩
  clear hh
  have c5:=HE.out.c5
  simp only []
  go_wp2
  go_ret
  exact ⟨by rw [HC.out.1];rfl,v,by rw [HC.out.2];exact HK.out,Step.of_below HB.out p v⟩
 | true =>
  have Hh:=hide hh
  rw [Bk.posI_some hh]
  have hk:=Bk.posI_lt hh
  have HK0:=hide hk
  clear hh
  have hcell:=cell_of_one HK.out.cell
  rcases HK.out.form with ⟨_,hl⟩ | ⟨g,cap,rfl,hle,_,hl⟩
  ·rw [hl] at hk;exact absurd hk (Nat.not_lt_zero _)
  have HX:Hid (Cv.ok (Cv.nth l (Bk.pos l id)) = true):=hgood.out.oks _ (Cv.nth_mem hk)
  obtain ⟨_,_,_,_,c4⟩:=hl _ hk
  have h60:l.length≤60:=hn.out
  obtain ⟨n,hnn⟩:∃ n,l.length = n:=⟨_,rfl⟩
  have Hnn:=hide hnn
  rw [hnn] at hk hcell h60
  have hki:(Bk.pos l id:Int) < n:=by omega
  simp only [Nat.zero_add] at c4
  have hxb:=(Cv.ok_bounds HX.out).2.2.2.2
  have HLS:=hide (HK.out.less HK0.out q)
  obtain ⟨xq,hxq⟩:∃ xq,(Cv.nth l (Bk.pos l id)).q = xq:=⟨_,rfl⟩
  obtain ⟨k,hkk⟩:∃ k,Bk.pos l id = k:=⟨_,rfl⟩
  have HXQ:=hide hxq;have HKK:=hide hkk
  rw [hxq] at c4 hxb HLS
  rw [hkk] at hk hki c4 HLS ⊢
  clear hxq hkk hnn hl hle HX
  have hg:g < w2.heap.size:=World.block_lt_of_cell? _ _ c4
  simp only []
  go_wp2_with fail
  refine (within_any q 1 xq _).mono ?_
  rintro e w3 ⟨rfl,rfl⟩
  cases hw:Wi.withinB q 1 xq with
  | false =>
   have HC:Hid (Bk.takC l id q = 1∧Bk.takL l id q = l):=by
    have e:Bk.takC l id q = 1:=by unfold Bk.takC;rw [if_pos Hh.out,HXQ.out,hw];rfl
    exact ⟨e,by unfold Bk.takL;rw [e];rfl⟩
   clear hw
   have c1:=HE.out.er.c1
   simp only []
   go_wp2
   go_ret
   exact ⟨by rw [HC.out.1];rfl,_,by rw [HC.out.2];exact HK.out,Step.of_below HB.out p _⟩
  | true =>
   have HC0:Hid (Bk.takC l id q = 0):=by show _ = _;unfold Bk.takC;rw [if_pos Hh.out,HXQ.out,hw];rfl
   have hqb:1≤q∧q≤xq:=by simpa [Wi.withinB] using hw
   have f4:w3.frozen? ⟨g,k * 5 + 4,none⟩ = false:=(row_open (by have:=HK.out.row;rw [Hnn.out] at this;exact this) (k * 5 + 4) (by omega)).2.1
   have hgp:¬ (g = p):=fun e=>HK.out.ne (by rw [e];rfl)
   clear hw
   have hsub:IntKind.i64.wrap (xq - q) = xq - q:=IntWalk.i64_in _ (by omega)
   by_cases hq:q = xq
   ·have hz:xq - q = 0:=by omega
    have HL1:Hid (Bk.takL l id q = Bk.del l k):=by show _ = _;unfold Bk.takL;rw [if_pos HC0.out,HXQ.out,if_pos hq,HKK.out]
    have HDP:Hid (Bk.del (Bk.put l k (Bk.less (Cv.nth l k) q)) k = Bk.del l k):=Bk.del_put (by rw [Hnn.out];exact hk) _
    have HRM:=hide (remove_any p base k _ _ _ HLS.out.1 (by rw [Bk.put_length (by rw [Hnn.out];exact hk),Hnn.out];exact hk) (by show _≤_;rw [Bk.put_length (by rw [Hnn.out];exact hk)];exact hn.out))
    rw [hz] at HRM HLS
    have HQ:=hide hq
    clear hq
    simp only []
    go_wp2_with fail
    refine HRM.out.mono ?_
    rintro e w4 ⟨rfl,v4,hk4,hs4⟩
    have HK4:=hide hk4;have HS4:=hide hs4
    clear hk4 hs4 HRM
    simp only []
    go_wp2
    go_ret
    refine ⟨by rw [HC0.out];rfl,v4,by rw [HL1.out,← HDP.out];exact HK4.out,((Step.of_below HB.out p _).trans HLS.out.2).trans HS4.out⟩
   ·have hz:¬ (xq - q = 0):=by omega
    have HL1:Hid (Bk.takL l id q = Bk.put l k (Bk.less (Cv.nth l k) q)):=by show _ = _;unfold Bk.takL;rw [if_pos HC0.out,HXQ.out,if_neg hq,HKK.out]
    have HQ:=hide hq
    clear hq
    simp only []
    go_wp2
    go_ret
    refine ⟨by rw [HC0.out];rfl,_,by rw [HL1.out];exact HLS.out.1,(Step.of_below HB.out p _).trans HLS.out.2⟩
end Go.Proofs.YtidahfhingdlmaaGreatDoor
