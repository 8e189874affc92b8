/- slices.DeleteFunc of requests: those of one ID of an item go. -/
import Derived.Test.YtidahfhingdlmaaGreatDoorT33
import Derived.Test.YtidahfhingdlmaaGreatDoorT27
namespace Go.Proofs.YtidahfhingdlmaaGreatDoor
open Go.RowKit
set_option maxRecDepth 100000
namespace Ve
def same (a x:Ask):Bool:=x.it == a.it&&x.id == a.id
theorem others_eq (a:Ask) (l:List Ask):others a l = l.filter fun x=>!same a x:=rfl
theorem others_snoc (a:Ask) (l:List Ask) (x:Ask):others a (l++[x]) = others a l++if same a x = true then [] else [x]:=by
 rw [others_eq,others_eq,List.filter_append]
 cases h:same a x <;> simp [h]
theorem atake_snoc {l:List Ask} {k:Nat} (h:k < l.length):l.take (k + 1) = l.take k++[anth l k]:=by
 rw [List.take_succ_eq_append_getElem h]
 congr 2
 have:=anth_get h
 rw [List.getElem?_eq_getElem h] at this
 exact Option.some.inj this
theorem others_none {a:Ask} {l:List Ask} (h:∀ x∈l,same a x = false):others a l = l:=by
 rw [others_eq,List.filter_eq_self]
 intro x hx
 rw [h x hx];rfl
end Ve
theorem delc_any (A:Nat) (a x:Ask) (w:World) (hA:w.heap[A]? = some (.cells (askA a) 45 (0,0))) :
  Calls Tryz.prog 161 #[askV x,.pointer (some ⟨A,0,none⟩)] w fun e w'=>e = .returned (.bool (Ve.same a x))∧Below w.heap.size w w':=by
 have c3:w.cell? ⟨A,3,none⟩ = some (.int .i64 a.it):=by rw [cell_of_row _ _ _ _ _ _ hA];rfl
 have c7:w.cell? ⟨A,7,none⟩ = some (.int .i64 a.id):=by rw [cell_of_row _ _ _ _ _ _ hA];rfl
 have hlt:=lt_of_block hA
 have hs:Ve.same a x = (x.it == a.it&&x.id == a.id):=rfl
 rw [hs]
 clear hA hs
 cases h1:(x.it == a.it)
 all_goals
  unfold askV askA
  go_enter Tryz.func161,Tryz.ntmps161
  go_wp2
  go_ret
  refine ⟨by simp,(Below.refl _ _).alloc (Nat.le_refl _) _⟩
theorem ask_cells {w:World} {base g n cap:Nat} {R:List Ask} (hrow:w.ownsRow base 45 8 (.slice (some ⟨g,0,none⟩) n cap) n (aflat R)) {k:Nat} (hk:k < R.length) (hkn:k < n) :
  w.cell? ⟨g,k * 8,none⟩ = some (.int .u8 (anth R k).k)∧w.cell? ⟨g,k * 8 + 1,none⟩ = some (.int .i64 (anth R k).c)∧w.cell? ⟨g,k * 8 + 2,none⟩ = some (.int .i64 (anth R k).sq)∧w.cell? ⟨g,k * 8 + 3,none⟩ = some (.int .i64 (anth R k).it)∧w.cell? ⟨g,k * 8 + 4,none⟩ = some (.int .i64 (anth R k).sd)∧w.cell? ⟨g,k * 8 + 5,none⟩ = some (.int .i64 (anth R k).pr)∧w.cell? ⟨g,k * 8 + 6,none⟩ = some (.int .i64 (anth R k).q)∧w.cell? ⟨g,k * 8 + 7,none⟩ = some (.int .i64 (anth R k).id):=by
 have key:∀ j,j < 8→w.cell? ⟨g,k * 8 + j,none⟩ = (askC (anth R k))[j]?:=fun j hj=>by
  rw [(i_row_open hrow (k * 8 + j) (by omega)).2.2,aflat_get R k j hk hj]
 exact ⟨key 0 (by decide),key 1 (by decide),key 2 (by decide),key 3 (by decide),key 4 (by decide),key 5 (by decide),key 6 (by decide),key 7 (by decide)⟩
set_option maxHeartbeats 1000000 in
theorem indexAsk_at (base g n cap A:Nat) (a:Ask) (l:List Ask) (w:World) (hn':n≤100000) (hln:Hid (l.length = n)) (hrow:Hid (w.ownsRow base 45 8 (.slice (some ⟨g,0,none⟩) n cap) n (aflat l))) (hA:Hid (w.heap[A]? = some (.cells (askA a) 45 (0,0)))) :
  Calls Tryz.prog 188 #[.slice (some ⟨g,0,none⟩) n cap,.func (.func 161) #[] #[.pointer (some ⟨A,0,none⟩)]] w fun e w'=>((e = .returned (.int .i64 (-1))∧∀ x∈l,Ve.same a x = false)∨∃ k,k < n∧e = .returned (.int .i64 (k:Nat))∧(∀ x∈l.take k,Ve.same a x = false)∧Ve.same a (anth l k) = true)∧Below w.heap.size w w':=by
 go_enter Tryz.func188,Tryz.ntmps188
 go_wp2
 go_loopw [8] (fun i wr=>∃ k:Nat,k≤n∧i = .int .i64 k∧(∀ x∈l.take k,Ve.same a x = false)∧Below w.heap.size w wr) (fun i _=>n - (intOf i).toNat)
 case atStart=>exact ⟨0,Nat.zero_le _,rfl,by simp,Below.refl _ _⟩
 case round =>
  obtain ⟨k,hk,rfl,hno,hb⟩:=hrel
  have HN:=hide hno;have HB:=hide hb
  clear hno hb
  by_cases hlt:k < n
  ·have hki:(k:Int) < n:=by omega
   have hkl:k < l.length:=by rw [hln.out];exact hlt
   obtain ⟨c0,c1,c2,c3,c4,c5,c6,c7⟩:=ask_cells (row_later hrow.out HB.out) hkl hlt
   have HC:=hide (delc_any A a (anth l k) wr (s_row_later HB.out hA.out))
   have HT:=hide (Ve.atake_snoc hkl)
   obtain ⟨x,hxx⟩:∃ x,anth l k = x:=⟨_,rfl⟩
   rw [hxx] at HC HT c0 c1 c2 c3 c4 c5 c6 c7
   have HX:=hide hxx
   clear hxx
   unfold askV askA at HC
   go_wp2_with fail
   refine HC.out.mono ?_
   rintro e w2 ⟨rfl,hb2⟩
   have HB2:=hide (HB.out.trans (hb2.mono HB.out.size))
   clear hb2 c0 c1 c2 c3 c4 c5 c6 c7 HC
   cases hx:Ve.same a x with
   | true =>
    have Hx:=hide hx
    clear hx
    simp only []
    go_wp2
    go_ret
    exact ⟨.inr ⟨k,hlt,rfl,HN.out,by rw [HX.out];exact Hx.out⟩,HB2.out⟩
   | false =>
    have Hno:Hid (∀ y∈l.take (k + 1),Ve.same a y = false):=fun y hy=>by
     rw [HT.out] at hy
     rcases List.mem_append.1 hy with h | h
     ·exact HN.out y h
     ·rw [List.mem_singleton.1 h];exact hx
    clear hx
    simp only []
    go_wp2
    exact ⟨⟨k + 1,by omega,by go_num,Hno.out,HB2.out⟩,by simp [intOf];omega⟩
  ·have hki:¬ (k:Int) < n:=by omega
   have hkk:k = l.length:=by rw [hln.out];omega
   have hno:=HN.out
   rw [hkk,List.take_length] at hno
   have Hno:=hide hno
   clear hno hkk
   go_wp2
   go_ret
   exact ⟨.inl ⟨rfl,Hno.out⟩,HB.out⟩
theorem indexAsk_none (a:Option Addr) (f:Value) (w:World):Calls Tryz.prog 188 #[.slice a 0 0,f] w fun e w'=>e = .returned (.int .i64 (-1))∧w' = w:=by
 go_enter Tryz.func188,Tryz.ntmps188
 go_wp2
 refine wp_loop_rounds 1 ?_
 rw [rounds_succ]
 go_wp2
 go_ret
 exact ⟨rfl,rfl⟩
theorem run_clear_more (w:World) (b o J c:Nat) (hJ:0 < J) (hc:∀ j,j < J * 8→(w.cell? ⟨b,o + j,none⟩).isSome = true) (hf:∀ j,j < J * 8→w.frozen? ⟨b,o + j,none⟩ = false) :
  ∃ zs:List Value,zs.length = J * 8∧∀ ty,(Builtin.clear_ #[39] ty #[.slice (some ⟨b,o,none⟩) J c]).run Tryz.prog w = .ok (.tuple #[]) (w.setCells b o zs):=by
 obtain ⟨zs,hzs⟩:∃ zs,zs = (Builtin.zeroCells (Value.agg #[.int .u8 0,.int .i64 0,.int .i64 0,.int .i64 0,.int .i64 0,.int .i64 0,.int .i64 0,.int .i64 0]).cells J).toList:=⟨_,rfl⟩
 have hz8:(Value.agg #[.int .u8 0,.int .i64 0,.int .i64 0,.int .i64 0,.int .i64 0,.int .i64 0,.int .i64 0,.int .i64 0]).cells = #[.int .u8 0,.int .i64 0,.int .i64 0,.int .i64 0,.int .i64 0,.int .i64 0,.int .i64 0,.int .i64 0]:=by kernel_rfl
 have hl:zs.length = J * 8:=by rw [hzs,hz8];simp [Builtin.zeroCells]
 have h1:∀ u∈zs,u.oneCell' = true:=by
  intro u hu
  rw [hzs,hz8] at hu
  simp only [Builtin.zeroCells,Array.toList_map,List.mem_map] at hu
  obtain ⟨i,_,rfl⟩:=hu
  have:i % 8 = 0∨i % 8 = 1∨i % 8 = 2∨i % 8 = 3∨i % 8 = 4∨i % 8 = 5∨i % 8 = 6∨i % 8 = 7:=by omega
  show (#[(.int .u8 0:Value),.int .i64 0,.int .i64 0,.int .i64 0,.int .i64 0,.int .i64 0,.int .i64 0,.int .i64 0][i % 8]!).oneCell' = true
  rcases this with e | e | e | e | e | e | e | e <;> rw [e] <;> rfl
 have hst:=run_storeCells_cells (P:=Tryz.prog) b o zs 0 w (fun j hj=>by rw [hl] at hj;exact hc j hj) (fun j hj=>by rw [hl] at hj;exact hf j hj) h1
 simp only [Nat.add_zero] at hst
 refine ⟨zs,hl,fun ty=>?_⟩
 obtain ⟨J',rfl⟩:∃ J',J = J' + 1:=⟨J - 1,by omega⟩
 simp [Builtin.clear_,run_underlying Tryz.underlying39,← hzs,hst]
theorem row_put {w:World} {base g n cap:Nat} {R:List Ask} (hrow:w.ownsRow base 45 8 (.slice (some ⟨g,0,none⟩) n cap) n (aflat R)) (hR:R.length = n) (hcap:n≤cap) {i:Nat} (hi:i < n) (x:Ask) :
  (w.setCells g (i * 8) (askC x)).ownsRow base 45 8 (.slice (some ⟨g,0,none⟩) n cap) n (aflat (R.take i++x :: R.drop (i + 1))):=by
 have e:aflat (R.take i++x :: R.drop (i + 1)) = (aflat R).take (i * 8)++askC x++(aflat R).drop (i * 8 + (askC x).length):=by
  rw [aflat_append,aflat_take R i (by omega),show i * 8 + (askC x).length = (i + 1) * 8 by show i * 8 + 8 = _;omega,aflat_drop R (i + 1) (by omega),List.append_assoc]
  rfl
 have hl:(aflat (R.take i++x :: R.drop (i + 1))).length = n * 8:=by
  rw [aflat_length];simp;omega
 exact i_row_setCells hrow (i * 8) (askC x) n hcap (by show i * 8 + 8≤_;omega) _ hl (Nat.le_refl _) (by rw [← e];exact List.take_of_length_le (by omega))
def DelAns (w w':World) (e:Ending) (base:Nat) (v:Value) (l:List Ask):Prop :=
 ∃ v',e = .returned v'∧w'.ownsRow base 45 8 v' l.length (aflat l)∧w.grownBy w' v.ownBlock
theorem Turned.to_grown {w w':World} {g:Nat} (h:Turned w w' (fun k=>k = g)):w.grownBy w' (some g):=⟨h.os,h.tape,h.output,h.size,fun k hk hn=>h.block k hk (fun e=>hn (by rw [e]))⟩
set_option maxHeartbeats 2000000 in
theorem deleteFunc_some (base g n cap A:Nat) (a:Ask) (l:List Ask) (w:World) (hn':n≤100000) (hcap:n≤cap) (hln:Hid (l.length = n)) (hrow:Hid (w.ownsRow base 45 8 (.slice (some ⟨g,0,none⟩) n cap) n (aflat l))) (hA:Hid (w.heap[A]? = some (.cells (askA a) 45 (0,0)))) (hgA:Hid (g≠A)) :
  Calls Tryz.prog 160 #[.slice (some ⟨g,0,none⟩) n cap,.func (.func 161) #[] #[.pointer (some ⟨A,0,none⟩)]] w fun e w'=>DelAns w w' e base (.slice (some ⟨g,0,none⟩) n cap) (Ve.others a l):=by
 have HI:=hide (indexAsk_at base g n cap A a l w hn' hln hrow hA)
 go_enter Tryz.func160,Tryz.ntmps160
 go_wp2_with fail
 refine HI.out.mono ?_
 rintro e w2 ⟨h1 | ⟨k0,hk0,rfl,hno,hyes⟩,hb2⟩
 ·obtain ⟨rfl,hno⟩:=h1
  have HNO:=hide (Ve.others_none hno);have HB2:=hide hb2
  clear hno hb2 HI
  simp only []
  go_wp2
  go_ret
  refine ⟨_,rfl,?_,?_⟩
  ·rw [HNO.out,hln.out];exact row_later hrow.out HB2.out
  ·exact ⟨HB2.out.os,HB2.out.tape,HB2.out.output,HB2.out.size,fun k hk _=>HB2.out.block k hk⟩
 ·have hkl:k0 < l.length:=by rw [hln.out];exact hk0
  have H0:Hid (Ve.others a (l.take (k0 + 1)) = l.take k0):=by
   show _ = _
   rw [Ve.atake_snoc hkl,Ve.others_snoc,Ve.others_none hno,hyes]
   simp
  have HB2:=hide hb2
  clear hno hyes hb2 HI
  have hne:¬ ((k0:Int) = -1):=by omega
  simp only []
  go_wp2_with fail
  go_loopw [5,6] (fun iv jv wr=>∃ i j:Nat,i < j∧j≤n∧iv = .int .i64 i∧jv = .int .i64 j∧i = (Ve.others a (l.take j)).length∧wr.ownsRow base 45 8 (.slice (some ⟨g,0,none⟩) n cap) n (aflat (Ve.others a (l.take j)++l.drop i))∧Turned w wr (fun k=>k = g)) (fun _ jv _=>n - (intOf jv).toNat)
  case atStart =>
   refine ⟨k0,k0 + 1,by omega,hk0,rfl,by go_num,?_,?_,Turned.of_below HB2.out _⟩
   ·rw [H0.out,List.length_take];omega
   ·rw [H0.out,List.take_append_drop];exact row_later hrow.out HB2.out
  case round =>
   obtain ⟨i,j,hij,hj,rfl,rfl,hi,hr,ht⟩:=hrel
   have HR:=hide hr;have HT:=hide ht;have HL:=hide hi
   clear hr ht hi
   have hin:(i:Int) < n:=by omega
   by_cases hlt:j < n
   ·have hji:(j:Int) < n:=by omega
    have hjl:j < l.length:=by rw [hln.out];exact hlt
    have hRl:(Ve.others a (l.take j)++l.drop i).length = n:=by
     rw [List.length_append,← HL.out,List.length_drop,hln.out];omega
    have hat:anth (Ve.others a (l.take j)++l.drop i) j = anth l j:=by
     unfold anth
     rw [List.getD_eq_getElem?_getD,List.getD_eq_getElem?_getD,List.getElem?_append_right (by rw [← HL.out];omega),← HL.out,List.getElem?_drop]
     congr 2
     omega
    obtain ⟨c0,c1,c2,c3,c4,c5,c6,c7⟩:=ask_cells HR.out (by rw [hRl];exact hlt) hlt
    rw [hat] at c0 c1 c2 c3 c4 c5 c6 c7
    have hgl:g < wr.heap.size:=World.block_lt_of_cell? _ _ c0
    have hgne:g≠wr.heap.size:=by omega
    have HSN:Hid (Ve.others a (l.take (j + 1)) = Ve.others a (l.take j)++if Ve.same a (anth l j) = true then [] else [anth l j]):=by
     show _ = _
     rw [Ve.atake_snoc hjl,Ve.others_snoc]
    have HRL:=hide hRl
    have HC:Hid (∀ W',Below wr.heap.size wr W'→Calls Tryz.prog 161 #[askV (anth l j),.pointer (some ⟨A,0,none⟩)] W' fun e w'=>e = .returned (.bool (Ve.same a (anth l j)))∧Below W'.heap.size W' w'):=fun W' hb=>delc_any A a (anth l j) W' (s_row_later hb ((HT.out.block A (lt_of_block hA.out) (fun e=>hgA.out e.symm)).trans hA.out))
    clear hat hRl
    generalize anth l j = x at *
    have HB3:Hid (Below wr.heap.size wr (wr.alloc (.cells (askA x) 45))):=(Below.refl _ _).alloc (Nat.le_refl _) _
    have HX3:=hide (heap_alloc_new wr (.cells (askA x) 45))
    unfold askV askA at *
    go_wp2_with fail
    refine (HC.out _ HB3.out).mono ?_
    rintro e w4 ⟨rfl,hb4⟩
    have HB4:=hide (HB3.out.trans (hb4.mono HB3.out.size))
    have HX4:=hide (s_row_later hb4 HX3.out)
    have HR4:=hide (row_later HR.out HB4.out)
    have HT4:Hid (Turned w w4 (fun k=>k = g)):=HT.out.trans (Turned.of_below HB4.out _) (fun _ h=>.inl h)
    have hszl:wr.heap.size < w4.heap.size:=lt_of_block HX4.out
    clear hb4 HC HB3 HX3 c0 c1 c2 c3 c4 c5 c6 c7
    cases hx:Ve.same a x with
    | true =>
     rw [hx,if_pos rfl,List.append_nil] at HSN
     clear hx
     simp only []
     go_wp2
     refine ⟨⟨i,j + 1,by omega,hlt,rfl,by go_num,?_,?_,HT4.out⟩,by simp [intOf];omega⟩
     ·rw [HSN.out];exact HL.out
     ·rw [HSN.out];exact HR4.out
    | false =>
     rw [hx,if_neg (by decide)] at HSN
     clear hx
     obtain ⟨d0,d1,d2,d3,d4,d5,d6,d7⟩:=ask_cells HR4.out (k:=i) (by rw [HRL.out];omega) (by omega)
     generalize anth (Ve.others a (l.take j)++l.drop i) i = y at *
     have f0:w4.frozen? ⟨g,i * 8,none⟩ = false:=(i_row_open HR4.out (i * 8) (by omega)).2.1
     have f1:w4.frozen? ⟨g,i * 8 + 1,none⟩ = false:=(i_row_open HR4.out (i * 8 + 1) (by omega)).2.1
     have f2:w4.frozen? ⟨g,i * 8 + 2,none⟩ = false:=(i_row_open HR4.out (i * 8 + 2) (by omega)).2.1
     have f3:w4.frozen? ⟨g,i * 8 + 3,none⟩ = false:=(i_row_open HR4.out (i * 8 + 3) (by omega)).2.1
     have f4:w4.frozen? ⟨g,i * 8 + 4,none⟩ = false:=(i_row_open HR4.out (i * 8 + 4) (by omega)).2.1
     have f5:w4.frozen? ⟨g,i * 8 + 5,none⟩ = false:=(i_row_open HR4.out (i * 8 + 5) (by omega)).2.1
     have f6:w4.frozen? ⟨g,i * 8 + 6,none⟩ = false:=(i_row_open HR4.out (i * 8 + 6) (by omega)).2.1
     have f7:w4.frozen? ⟨g,i * 8 + 7,none⟩ = false:=(i_row_open HR4.out (i * 8 + 7) (by omega)).2.1
     have b0:w4.cell? ⟨wr.heap.size,0,none⟩ = some (.int .u8 x.k):=by rw [cell_of_row _ _ _ _ _ _ HX4.out];rfl
     have b1:w4.cell? ⟨wr.heap.size,1,none⟩ = some (.int .i64 x.c):=by rw [cell_of_row _ _ _ _ _ _ HX4.out];rfl
     have b2:w4.cell? ⟨wr.heap.size,2,none⟩ = some (.int .i64 x.sq):=by rw [cell_of_row _ _ _ _ _ _ HX4.out];rfl
     have b3:w4.cell? ⟨wr.heap.size,3,none⟩ = some (.int .i64 x.it):=by rw [cell_of_row _ _ _ _ _ _ HX4.out];rfl
     have b4:w4.cell? ⟨wr.heap.size,4,none⟩ = some (.int .i64 x.sd):=by rw [cell_of_row _ _ _ _ _ _ HX4.out];rfl
     have b5:w4.cell? ⟨wr.heap.size,5,none⟩ = some (.int .i64 x.pr):=by rw [cell_of_row _ _ _ _ _ _ HX4.out];rfl
     have b6:w4.cell? ⟨wr.heap.size,6,none⟩ = some (.int .i64 x.q):=by rw [cell_of_row _ _ _ _ _ _ HX4.out];rfl
     have b7:w4.cell? ⟨wr.heap.size,7,none⟩ = some (.int .i64 x.id):=by rw [cell_of_row _ _ _ _ _ _ HX4.out];rfl
     have HP:=hide (row_put HR4.out HRL.out hcap (i:=i) (by omega) x)
     have HT5:Hid (Turned w (w4.setCells g (i * 8) (askC x)) (fun k=>k = g)):=HT4.out.trans (Turned.setCells w4 g (askC x) (i * 8)) (fun _ h=>.inl h)
     have HE:Hid ((Ve.others a (l.take j)++l.drop i).take i++x :: (Ve.others a (l.take j)++l.drop i).drop (i + 1) = Ve.others a (l.take (j + 1))++l.drop (i + 1)):=by
      show _ = _
      rw [HSN.out]
      have hl:=HL.out
      generalize Ve.others a (l.take j) = O at *
      subst hl
      rw [List.take_left,List.drop_append,List.drop_of_length_le (by omega),List.nil_append,List.drop_drop,show O.length + (O.length + 1 - O.length) = O.length + 1 by omega]
      simp
     rw [HE.out] at HP
     simp only []
     go_wp2
     refine ⟨⟨i + 1,j + 1,by omega,hlt,by go_num,by go_num,?_,HP.out,HT5.out⟩,by simp [intOf];omega⟩
     rw [HSN.out,List.length_append,← HL.out];rfl
   ·have hji:¬ (j:Int) < n:=by omega
    obtain rfl:j = n:=by omega
    have hic:i≠cap:=by omega
    obtain ⟨zs,hzl,hcl⟩:=run_clear_more wr g (i * 8) (j - i) (cap - i) (by omega) (fun t ht=>(i_row_open HR.out _ (by omega)).1) (fun t ht=>(i_row_open HR.out _ (by omega)).2.1)
    have hO:Ve.others a (l.take j) = Ve.others a l:=by rw [← hln.out,List.take_length]
    have HRz:Hid ((wr.setCells g (i * 8) zs).ownsRow base 45 8 (.slice (some ⟨g,0,none⟩) i cap) i (aflat (Ve.others a l))):=by
     have hl:=HL.out
     rw [hO] at hl
     have hr:=HR.out
     rw [hO] at hr
     refine i_row_setCells hr (i * 8) zs i (by omega) (by rw [hzl];omega) _ (by rw [aflat_length,← hl]) (by omega) ?_
     rw [aflat_take _ i (by rw [List.length_append];omega),List.append_assoc,List.take_append_of_le_length (by rw [aflat_length,List.length_take,List.length_append];omega)]
     rw [show (Ve.others a l++l.drop i).take i = Ve.others a l by rw [hl,List.take_left],List.take_of_length_le (by rw [aflat_length,← hl];omega)]
    have HTz:Hid (Turned w (wr.setCells g (i * 8) zs) (fun k=>k = g)):=HT.out.trans (Turned.setCells wr g zs (i * 8)) (fun _ h=>.inl h)
    have HLL:Hid (i = (Ve.others a l).length):=by rw [← hO];exact HL.out
    have hic2:i≤cap:=by omega
    have hij2:i≤j:=by omega
    clear hO hzl
    go_wp2
    go_ret
    exact ⟨_,rfl,by rw [← HLL.out];exact HRz.out,HTz.out.to_grown⟩
theorem deleteFunc_any (base A:Nat) (v:Value) (a:Ask) (l:List Ask) (w:World) (hn:l.length≤100000) (hrow:w.ownsRow base 45 8 v l.length (aflat l)) (hA:w.heap[A]? = some (.cells (askA a) 45 (0,0))) (hne:v.ownBlock≠some A) :
  Calls Tryz.prog 160 #[v,.func (.func 161) #[] #[.pointer (some ⟨A,0,none⟩)]] w fun e w'=>DelAns w w' e base v (Ve.others a l):=by
 rcases hrow.2 with ⟨rfl,hl⟩ | ⟨g,cap,cur,rfl,_,_,hcap,_⟩
 ·have e:l = []:=List.length_eq_zero_iff.1 hl
  subst e
  have HI:=hide (fun f=>indexAsk_none none f w)
  have HR:=hide hrow
  clear hrow hA hne hn hl
  go_enter Tryz.func160,Tryz.ntmps160
  go_wp2_with fail
  refine (HI.out _).mono ?_
  rintro e w2 ⟨rfl,rfl⟩
  simp only []
  go_wp2
  go_ret
  exact ⟨_,rfl,HR.out,⟨rfl,rfl,rfl,Nat.le_refl _,fun _ _ _=>rfl⟩⟩
 ·exact deleteFunc_some base g l.length cap A a l w hn hcap rfl hrow hA (fun e=>hne (by rw [e];rfl))
end Go.Proofs.YtidahfhingdlmaaGreatDoor
