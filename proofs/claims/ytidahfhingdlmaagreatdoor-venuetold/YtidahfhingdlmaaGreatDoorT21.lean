/- bestFirst by its contract: the prices of the levels, the best one first. -/
import Derived.Test.YtidahfhingdlmaaGreatDoorT13
import Derived.Test.YtidahfhingdlmaaGreatDoorT18
import Derived.Test.YtidahfhingdlmaaGreatDoorT20
import Derived.Maps.OwnSet
import Derived.Test.YtidahfhingdlmaaGreatDoorT19
import Derived.Test.YtidahfhingdlmaaGreatDoorT09
import Derived.Test.YtidahfhingdlmaaGreatDoorT06
import Derived.Test.YtidahfhingdlmaaGreatDoorT02
namespace Go.Proofs.YtidahfhingdlmaaGreatDoor
open Go.RowKit Go.Maps Go.Shelf
set_option maxRecDepth 100000
theorem sortsA (m:Nat):AnyZI.SortsIn Tryz.prog sortedA_ren Fence.wide m :=
 ⟨fun blk off cap ss W hH hblk hsz=>callsIn_wide.2 (slices_Sort_int blk off cap ss W hH hblk hsz),fun p cap W=>callsIn_wide.2 (slices_Sort_int_none p cap W)⟩
theorem keys_any (mb:Option Nat) (W:World):Calls Tryz.prog 247 #[.map mb] W fun e w'=>e = .returned (.func (.func 258) #[] #[.pointer (some ⟨W.heap.size,0,none⟩)])∧w' = W.alloc (.cells #[.map mb] 308) :=
 (callsIn_wide (n:=5)).1 (AnyZI.keys_in keysA Fence.wide 5 trivial rfl mb W)
theorem sorted_any (b nn:Nat) (D0:DataW Value) (w:World) (hown:w.ownsMap Tryz.prog 3 RV b nn D0) (hnn:nn≤1000) :
  Calls Tryz.prog 246 #[.func (.func 258) #[] #[.pointer (some ⟨w.heap.size,0,none⟩)]] (w.alloc (.cells #[.map (some b)] 308)) fun e w'=>∃ (v:Value) (ss:List Int),e = .returned v∧ss.Perm (intKeys D0) ∧
   w'.ownsRow (w.alloc (.cells #[.map (some b)] 308)).heap.size 3 1 v ss.length ((ss.mergeSort (fun x y=>decide (x≤y))).map encZ)∧(v = .slice none 0 0↔ss = [])∧Below (w.alloc (.cells #[.map (some b)] 308)).heap.size (w.alloc (.cells #[.map (some b)] 308)) w':=by
 have hseq:SeqGives Fence.wide 2 Tryz.prog 258 #[.pointer (some ⟨w.heap.size,0,none⟩)] encZ (fun ss=>ss.Perm (intKeys D0)) (Maps.size D0) (w.alloc (.cells #[.map (some b)] 308)) :=
  AnyZI.keys_gives (ρ:=keysA_ren) { keysA with } Fence.wide _ trivial rfl (by omega) w.heap.size b nn D0 _ (by simp) (by simp) (hown.alloc _)
 have hsz:=hown.size_le
 have cS:=AnyZI.sorted_in sortedA Fence.wide 5 trivial trivial trivial trivial rfl (by omega) (sortsA _) (enters_of Tryz.func257 (by kernel_rfl) rfl) 258 #[.pointer (some ⟨w.heap.size,0,none⟩)] trivial (enters_of Tryz.func258 (by kernel_rfl) rfl) _ _ (by unfold maxLen;omega) (by omega) _ hseq
 change CallsIn _ _ Tryz.prog 246 _ _ _ at cS
 exact (callsIn_wide (n:=5)).1 cS
def Prs (w:World) (v:Value) (ps:List Int):Prop :=
 (ps = []∧v = .slice none 0 0)∨∃ b cap,v = .slice (some ⟨b,0,none⟩) ps.length cap∧∀ i,i < ps.length→w.cell? ⟨b,i,none⟩ = some (.int .i64 (ps.getD i 0))
theorem Prs.later {w w':World} {v:Value} {ps:List Int} (h:Prs w v ps) (hb:Below w.heap.size w w'):Prs w' v ps:=by
 rcases h with h | ⟨b,cap,h1,h2⟩
 ·exact .inl h
 ·exact .inr ⟨b,cap,h1,fun i hi=>cell_later hb (h2 i hi)⟩
theorem prs_of {w:World} {base n:Nat} {v:Value} {ps:List Int} (hn:n = ps.length) (h:w.ownsRow base 3 1 v n (ps.map encZ)):Prs w v ps:=by
 subst hn
 rcases h.2 with ⟨h1,h2⟩ | ⟨g,cap,cur,h1,_⟩
 ·exact .inl ⟨List.eq_nil_of_length_eq_zero h2,h1⟩
 ·refine .inr ⟨g,cap,h1,fun i hi=>?_⟩
  have:=World.ownsRow.cells h (g:=g) (by rw [h1];rfl) i (.int .i64 (ps.getD i 0)) (by simp [hi,encZ])
  have hp:(⟨g,0,none⟩:Addr).add i = ⟨g,i,none⟩:=by unfold Addr.add;split <;> simp_all
  rwa [hp] at this
theorem sorted_is {w:World} {b n:Nat} {D:DataW Value} (hown:w.ownsMap Tryz.prog 3 RV b n D) {ps ss:List Int} (hp:ps.Pairwise (· < ·)) (hm:∀ p,p∈ps↔Maps.has D (.int .i64 p) = true) (hs:ss.Perm (intKeys D)) :
  ss.mergeSort (fun x y=>decide (x≤y)) = ps∧ss.length = ps.length∧ps.length≤n:=by
 have hle:=hown.size_le
 obtain ⟨es,hD,hpw,_⟩:=hown.entries keyed3
 obtain ⟨es',hD',hko⟩:=hown.keysOf
 obtain rfl:es = es':=by rw [hD] at hD';simpa using hD'
 subst hD
 have hperm:=perm_intKeys hpw (fun p hp=>by obtain ⟨v,hv⟩:=hko p hp;obtain ⟨x,_,hx,_⟩:=Maps.keyOf_i64 Tryz.underlying3 hv;exact ⟨x,hx⟩) (hp.imp fun h e=>by omega) hm
 have h2:=hs.trans hperm.symm
 refine ⟨?_,h2.length_eq,?_⟩
 rotate_left
 ·rw [← h2.length_eq,hs.length_eq]
  simpa [intKeys,Maps.size] using hle
 have h3:=mergeSort_of_perm_i h2
 rw [show ss.mergeSort (fun x y=>decide (x≤y)) = ps.mergeSort leI from h3]
 exact List.mergeSort_of_pairwise (hp.imp fun h=>by simp [leI];omega)
set_option maxHeartbeats 400000 in
theorem bestFirst_any (sd:Int) (B base n:Nat) (f:Int→List Cv.Lot) (ps:List Int) (w:World) (hL:Hid (Levels w base B n f)) (hn:n≤1000) (hp:Hid (ps.Pairwise (· < ·))) (hm:Hid (∀ p,p∈ps↔f p≠[])) :
  Calls Tryz.prog 232 #[.map (some B),.int .i64 sd] w fun e w'=>∃ v,e = .returned v∧Prs w' v (if sd = 0 then ps.reverse else ps)∧Below w.heap.size w w':=by
 obtain ⟨D,g,hLv⟩:=hL.out
 have HO:=hide hLv.own
 have HM:Hid (∀ p,p∈ps↔Maps.has D (.int .i64 p) = true):=fun p=>by
  rw [hm.out p,hLv.has_ p];simp
 clear hLv
 by_cases hs:sd = 0
 ·subst hs
  rw [if_pos rfl]
  go_enter Tryz.func232,Tryz.ntmps232
  go_wp2_with fail
  refine (keys_any (some B) _).mono ?_
  rintro e w1 ⟨rfl,rfl⟩
  simp only []
  go_wp2_with fail
  refine (sorted_any B n D w HO.out hn).mono ?_
  rintro e w2 ⟨v,ss,rfl,hss,hrow,hnil,hb⟩
  obtain ⟨e1,e2,e3⟩:=sorted_is HO.out hp.out HM.out hss
  rw [e1,e2] at hrow
  have HB2:Hid (Below w.heap.size w w2):=((Below.refl _ w).alloc (Nat.le_refl _) _).trans (hb.mono (by simp))
  have hbase:w.heap.size≤(w.alloc (.cells #[.map (some B)] 308)).heap.size:=by simp
  have HLEN:Hid (ps.length≤9223372036854775807):=Nat.le_trans e3 (by omega)
  clear hnil hb e1 e2 e3 hss
  rcases hrow.2 with ⟨rfl,h0⟩ | ⟨r,cap,cur,rfl,hr1,hr2,_⟩
  ·have HP:Hid (ps = []):=List.eq_nil_of_length_eq_zero h0
   clear hrow h0
   simp only []
   go_wp2_with fail
   refine (slices_Reverse_int_empty none 0 w2).mono ?_
   rintro e w3 ⟨rfl,rfl⟩
   simp only []
   go_wp2
   go_ret
   exact ⟨_,rfl,.inl ⟨by rw [HP.out];rfl,rfl⟩,HB2.out⟩
  ·have HH:Hid (Sort.Holds (Value.int .i64) w2 r 0 ps.toArray):=holds_of_row (zs:=ps) hrow
   have HR:Hid (w.heap.size≤r):=Nat.le_trans hbase hr1
   clear hrow hr1 hr2 hbase
   simp only []
   go_wp2_with fail
   refine (slices_Reverse_int r 0 cap ps w2 HH.out HLEN.out).mono ?_
   rintro e w3 ⟨rfl,q,rfl⟩
   simp only []
   go_wp2
   go_ret
   refine ⟨_,rfl,.inr ⟨r,cap,by simp,fun i hi=>?_⟩,HB2.out.trans (putRow_below (n:=q) HR.out)⟩
   have:=(Sort.holds_putRow (Value.int .i64) w2 r 0 ps.toArray ps.reverse.toArray HH.out (by simp) i (by simpa using hi)).1
   rw [Nat.zero_add] at this
   refine Eq.trans this ?_
   simp at hi
   simp [hi]
 ·rw [if_neg hs]
  go_enter Tryz.func232,Tryz.ntmps232
  go_wp2_with fail
  refine (keys_any (some B) _).mono ?_
  rintro e w1 ⟨rfl,rfl⟩
  simp only []
  go_wp2_with fail
  refine (sorted_any B n D w HO.out hn).mono ?_
  rintro e w2 ⟨v,ss,rfl,hss,hrow,hnil,hb⟩
  obtain ⟨e1,e2,e3⟩:=sorted_is HO.out hp.out HM.out hss
  rw [e1,e2] at hrow
  have HP:=hide (prs_of rfl hrow)
  have HB2:Hid (Below w.heap.size w w2):=((Below.refl _ w).alloc (Nat.le_refl _) _).trans (hb.mono (by simp))
  clear hnil hb e1 e2 e3 hss hrow
  simp only []
  go_wp2
  go_ret
  exact ⟨_,rfl,HP.out,HB2.out⟩
end Go.Proofs.YtidahfhingdlmaaGreatDoor
namespace Go.Proofs.YtidahfhingdlmaaGreatDoor
open Go.RowKit Go.Maps
set_option maxRecDepth 100000
namespace Ra
open Cv
def rowF (sh:List Lot→List Lot) (f:Int→List Lot):List Int→Int→List Lot
 | [],_=>[]
 | p :: ps,v=>arr sh (f p) v++rowF sh f ps (v - min (tot (f p)) v)
def sfF (sh:List Lot→List Lot) (f:Int→List Lot) (ps:List Int) (v:Int):List (Int × Int):=fill (rowF sh f ps v) v
theorem sfF_cons {sh:List Lot→List Lot} (hs:Mix sh) {f:Int→List Lot} {p:Int} (h:Pos (f p)) (ps:List Int) (v:Int) (hv:0≤v) :
  sfF sh f (p :: ps) v = fill (arr sh (f p) v) v++sfF sh f ps (v - min (tot (f p)) v):=by
 unfold sfF
 rw [rowF,fill_append _ _ _ (arr_pos hs h v) hv,tot_arr hs]
theorem sfF_zero (sh:List Lot→List Lot) (f:Int→List Lot) (ps:List Int):sfF sh f ps 0 = []:=fill_zero _
theorem rowF_is (sh:List Lot→List Lot) (l:List Lot) (sd:Int) (f:Int→List Lot):∀ (ps:List Int) (v:Int),(∀ p∈ps,f p = lv l sd p)→rowF sh f ps v = row sh l sd ps v
 | [],_,_=>rfl
 | p :: ps,v,h=>by
  rw [rowF,row,h p List.mem_cons_self,rowF_is sh l sd f ps _ (fun q hq=>h q (List.mem_cons_of_mem _ hq))]
def rest (sh:List Lot→List Lot) (f:Int→List Lot) (X:List Lot) (ps:List Int) (v:Int):List (Int × Int):=fill X v++sfF sh f ps (v - min (tot X) v)
theorem rest_zero (sh:List Lot→List Lot) (f:Int→List Lot) (X:List Lot) (hX:Pos X) (ps:List Int):rest sh f X ps 0 = []:=by
 have h:=tot_nonneg X hX
 unfold rest
 rw [fill_zero,show (0:Int) - min (tot X) 0 = 0 by omega,sfF_zero];rfl
theorem rest_nil (sh:List Lot→List Lot) (f:Int→List Lot) (ps:List Int) (v:Int) (hv:0≤v):rest sh f [] ps v = sfF sh f ps v:=by
 unfold rest
 rw [show v - min (tot []) v = v by simp [tot];omega];rfl
theorem rest_cons (sh:List Lot→List Lot) (f:Int→List Lot) (x:Lot) (X:List Lot) (hX:Pos (x :: X)) (ps:List Int) (v:Int) (hv:0 < v):rest sh f (x :: X) ps v = (x.id,min x.q v) :: rest sh f X ps (v - min x.q v):=by
 have hx:=hX x List.mem_cons_self
 have h:=tot_nonneg X (fun y hy=>hX y (List.mem_cons_of_mem _ hy))
 unfold rest
 rw [fill,if_neg (by omega),List.cons_append]
 rw [show v - min (tot (x :: X)) v = v - min x.q v - min (tot X) (v - min x.q v) by simp only [tot];omega]
theorem drop_nth {l:List Lot} {k:Nat} (h:k < l.length):l.drop k = nth l k :: l.drop (k + 1):=by
 unfold nth;rw [List.drop_eq_getElem_cons h,List.getD_eq_getElem?_getD,List.getElem?_eq_getElem h];rfl
end Ra
def fcells (F:List (Int × Int)):List Value:=F.flatMap fun f=>[.int .i64 f.1,.int .i64 f.2]
theorem fcells_snoc (F:List (Int × Int)) (f:Int × Int):fcells (F++[f]) = fcells F++[.int .i64 f.1,.int .i64 f.2]:=by simp [fcells]
theorem info45:∃ i z,Tryz.prog.info? 227 = some i∧i.zero = some z∧i.size = 2∧i.bytes = 16∧z.cells.size = 2:=⟨_,_,rfl,rfl,rfl,rfl,rfl⟩
theorem cell_new2 (w:World) (x y:Value) (T:TypeId) (e:Nat) (he:e = w.heap.size) (j:Nat) (u:Value) (hj:[x,y][j]? = some u):(w.alloc (.cells #[x,y] T)).cell? ((⟨e,0,none⟩:Addr).add j) = some u:=by
 subst he
 have hp:(⟨w.heap.size,0,none⟩:Addr).add j = ⟨w.heap.size,j,none⟩:=by unfold Addr.add;split <;> simp_all
 rw [hp,World.cell?_alloc_new,← hj]
 simp
theorem rows_apart {w:World} {a b:Nat} {e e':TypeId} {s s':Nat} {v v':Value} {n n':Nat} {xs xs':List Value} (h:w.ownsRow a e s v n xs) (h':w.ownsRow b e' s' v' n' xs') (he:e≠e'):v.ownBlock = none∨v.ownBlock≠v'.ownBlock:=by
 rcases h.2 with ⟨h1,_⟩ | ⟨g,cap,cur,h1,_,h2,_⟩
 ·left;rw [h1];rfl
 ·right
  rcases h'.2 with ⟨k1,_⟩ | ⟨g',cap',cur',k1,_,k2,_⟩
  ·rw [h1,k1];simp [Value.ownBlock]
  ·rw [h1,k1]
   intro e2
   have:g = g':=by simpa [Value.ownBlock] using e2
   rw [this,k2] at h2
   simp at h2
   exact he h2.2.symm
theorem lots_of_row {w:World} {base N cap r:Nat} {X:List Cv.Lot} (h:w.ownsRow base 137 5 (.slice (some ⟨r,0,none⟩) N cap) N (flat X)):LotsAt w r 0 X :=
 lotsAt_of_flat fun j u hu=>by
  have:=World.ownsRow.cells h (g:=r) rfl j u hu
  have hp:(⟨r,0,none⟩:Addr).add j = ⟨r,j,none⟩:=by unfold Addr.add;split <;> simp_all
  rwa [hp] at this
theorem flat_len {w:World} {base N:Nat} {v:Value} {X:List Cv.Lot} (h:w.ownsRow base 137 5 v N (flat X)):X.length = N:=by
 have:=h.1
 rw [flat_length] at this
 omega
theorem field0 (a:Option Addr) (n c:Nat) (q:Int) (w:World):(Instr.field 335 (.agg #[.slice a n c,.int .i64 q]) 0).run Tryz.prog w = .ok (.slice a n c) w:=by kernel_rfl
theorem field1 (a:Option Addr) (n c:Nat) (q:Int) (w:World):(Instr.field 335 (.agg #[.slice a n c,.int .i64 q]) 1).run Tryz.prog w = .ok (.int .i64 q) w:=by kernel_rfl
set_option maxHeartbeats 2000000 in
theorem share_of (sd v s:Int) (B base n:Nat) (f:Int→List Cv.Lot) (ps qs:List Int) (F:List (Int × Int)) (w:World) (hs:Hid (Ra.IsU s)) (hv0:0≤v) (hv1:v≤1000000) (hL:Hid (Levels w base B n f)) (hn:n≤1000)
  (hp:Hid (ps.Pairwise (· < ·))) (hm:Hid (∀ p,p∈ps↔f p≠[])) (hok:Hid (∀ p,Cv.Oks (f p))) (hlen:Hid (∀ p,(f p).length≤200)) (hqs:Hid ((if sd = 0 then ps.reverse else ps) = qs)) (hq:Hid (∀ p∈qs,f p≠[]∧1≤p∧p≤1000))
  (hF:Hid (Ra.sfF (Ra.sh s) f qs v = F)) (hFl:Hid (F.length≤1000)) (hql:Hid (qs.length≤1000)) :
  Calls Tryz.prog 199 #[.map (some B),.int .i64 sd,.int .i64 v,.int .u32 s] w fun e w'=>∃ v',e = .returned v'∧w'.ownsRow w.heap.size 227 2 v' F.length (fcells F)∧Below w.heap.size w w':=by
 obtain ⟨i0,z0,hi,hz0,hz1,hz2,hz3⟩:=info45
 have Hi:=hide hi;have Hz0:=hide hz0;have Hz1:=hide hz1;have Hz2:=hide hz2;have Hz3:=hide hz3
 clear hi hz0 hz1 hz2 hz3
 go_enter Tryz.func199,Tryz.ntmps199
 go_wp2_with fail
 refine (bestFirst_any sd B base n f ps w hL hn hp hm).mono ?_
 rintro e w1 ⟨vp,rfl,hprs,hb1⟩
 rw [hqs.out] at hprs
 have HB1:=hide hb1
 have HL1:=hide (hL.out.later hb1)
 clear hb1 hL
 rcases hprs with ⟨hq0,rfl⟩ | ⟨bp,capp,rfl,hc⟩
 ·have HF0:Hid (F = []):=by show _ = _;rw [← hF.out,hq0];rfl
  clear hq0
  simp only []
  go_wp2
  refine wp_loop_rounds 1 ?_
  rw [rounds_succ]
  go_wp2
  go_ret
  exact ⟨_,rfl,by rw [HF0.out];exact World.ownsRow_nil _ _ _ _,HB1.out⟩
 ·obtain ⟨m,HM⟩:∃ m,Hid (qs.length = m):=⟨_,rfl⟩
  rw [HM.out] at hc ⊢
  have hm1000:m≤1000:=by rw [← HM.out];exact hql.out
  have HC:=hide hc
  clear hc
  simp only []
  go_wp2
  go_loopw [9,10,22] (fun vf lf i wr=>∃ (k:Nat) (left:Int) (F0:List (Int × Int)),k≤m∧i = .int .i64 k∧lf = .int .i64 left∧0≤left∧left≤v∧F0++Ra.sfF (Ra.sh s) f (qs.drop k) left = F∧wr.ownsRow w1.heap.size 227 2 vf F0.length (fcells F0)∧Below w1.heap.size w1 wr) (fun _ _ i _=>m - (intOf i).toNat)
  case atStart=>exact ⟨0,v,[],Nat.zero_le _,rfl,rfl,hv0,Int.le_refl _,hF.out,World.ownsRow_nil _ _ _ _,Below.refl _ _⟩
  case round =>
   obtain ⟨k,left,F0,hk,rfl,rfl,hl0,hl1,hFF,hown,hbw⟩:=hrel
   have HO:=hide hown;have HW:=hide hbw;have HFF:=hide hFF
   clear hown hbw hFF
   by_cases hlt:k < m
   ·have hki:(k:Int) < m:=by omega
    obtain ⟨p,hpq⟩:∃ p,qs.getD k 0 = p:=⟨_,rfl⟩
    have hkq:k < qs.length:=by rw [HM.out];exact hlt
    have hge:qs[k] = p:=by rw [← hpq];simp [hkq]
    have cp:wr.cell? ⟨bp,k,none⟩ = some (.int .i64 p):=by rw [← hpq];exact cell_later HW.out (HC.out k hlt)
    have hmem:p∈qs:=by rw [← hge];exact List.getElem_mem hkq
    have hdrop:qs.drop k = p :: qs.drop (k + 1):=by rw [List.drop_eq_getElem_cons hkq,hge]
    obtain ⟨hne,hp1,hp2⟩:=hq.out p hmem
    obtain ⟨D,g,hLv⟩:=HL1.out.later HW.out
    have hrow:=hLv.row p
    have hrun:=hLv.look (p:=p) (by omega) (by omega)
    rcases (hLv.row p).2 with ⟨_,e0⟩ | ⟨r,capr,cur,hgp,_⟩
    ·exact absurd (List.eq_nil_of_length_eq_zero e0) hne
    have hpos:Ra.Pos (f p):=fun x hx=>((Cv.ok_bounds (hok.out p x hx)).2.2.2.2).1
    have hbnd:=tot_bounds (f p) (hok.out p)
    have hln:=hlen.out p
    rw [hgp] at hrow hrun
    unfold lvV at hrun
    have HNP:Hid (0 < (f p).length):=Nat.pos_of_ne_zero fun e=>hne (List.eq_nil_of_length_eq_zero e)
    obtain ⟨N,hN⟩:∃ N,(f p).length = N:=⟨_,rfl⟩
    obtain ⟨q,hq'⟩:∃ q,Ra.tot (f p) = q:=⟨_,rfl⟩
    have HFX:Hid (F0++Ra.rest (Ra.sh s) f (Ra.arr (Ra.sh s) (f p) left) (qs.drop (k + 1)) left = F):=by
     have h1:=HFF.out
     rw [hdrop,Ra.sfF_cons (Ra.mix_sh s) hpos _ _ hl0] at h1
     show _ = _
     unfold Ra.rest
     rw [Ra.tot_arr (Ra.mix_sh s)]
     exact h1
    have HNP:Hid (0 < N):=by rw [← hN];exact HNP.out
    rw [hN] at hrow hrun hln hbnd
    rw [hq'] at hrun hbnd
    have HROW:=hide hrow;have HN:=hide hN;have HPOS:=hide hpos;have HQ:=hide hq'
    clear hrow hN hpos hq' hLv hne hdrop hge hpq hgp HFF
    have f0:=@field0
    have f1:=@field1
    by_cases hql:left < q
    ·have hN1:(N:Int) - 1 = ((N - 1:Nat):Int):=by have:=HNP.out;omega
     go_wp2_with (at_lookup;refine wpList_lookup_run rfl _ _ 309 rfl _ _ _ rfl rfl hrun ?_)
     refine (drawn_some r 0 capr N (N - 1) s (f p) wr hs HN (by omega) hN1 (lots_of_row HROW.out)).mono ?_
     rintro e w2 ⟨v2,rfl,hrow2,hb2⟩
     rcases hrow2.2 with ⟨_,e0⟩ | ⟨rx,capx,cur2,rfl,_⟩
     ·exact absurd e0 (by have:=HNP.out;omega)
     obtain ⟨X,HXE⟩:∃ X,Hid (Ra.sh s (f p) = X):=⟨_,rfl⟩
     have HFY:Hid (F0++Ra.rest (Ra.sh s) f (X.drop 0) (qs.drop (k + 1)) left = F):=by
      have h1:=HFX.out
      unfold Ra.arr at h1
      rw [if_pos (by rw [HQ.out];exact hql),HXE.out] at h1
      exact h1
     have HX:Hid (w2.ownsRow 0 137 5 (.slice (some ⟨rx,0,none⟩) N capx) N (flat X)):=by rw [← HXE.out];exact row_base hrow2 (Nat.zero_le _)
     have HXP:Hid (Ra.Pos X):=fun x hx=>HPOS.out x ((Ra.mix_sh s (f p)).mem_iff.1 (by rw [HXE.out];exact hx))
     have HW2:Hid (Below w1.heap.size w1 w2):=HW.out.trans (hb2.mono HW.out.size)
     have HO2:Hid (w2.ownsRow w1.heap.size 227 2 u9 F0.length (fcells F0)):=HO.out.kept (row:=none) ⟨hb2.os,hb2.tape,hb2.output,hb2.size,fun i hi _=>hb2.block i hi⟩ (by
      cases e:u9.ownBlock with
      | none=>exact .inl rfl
      | some _=>exact .inr (by simp))
     clear hrow2 hb2 hN1
     simp only []
     clear cp HROW HO HW hrun f0 f1
     go_wp2
     go_loopw [9,10,41] (fun vf lf i wx=>∃ (j:Nat) (lft:Int) (F1:List (Int × Int)),j≤N∧i = .int .i64 j∧lf = .int .i64 lft∧0≤lft∧lft≤left∧F1++Ra.rest (Ra.sh s) f (X.drop j) (qs.drop (k + 1)) lft = F∧wx.ownsRow w1.heap.size 227 2 vf F1.length (fcells F1)∧wx.ownsRow 0 137 5 (.slice (some ⟨rx,0,none⟩) N capx) N (flat X)∧Below w1.heap.size w1 wx) (fun _ _ i _=>N - (intOf i).toNat)
     case atStart=>exact ⟨0,left,F0,Nat.zero_le _,rfl,rfl,hl0,Int.le_refl _,HFY.out,HO2.out,HX.out,HW2.out⟩
     case round =>
      obtain ⟨j,lft,F1,hj,rfl,rfl,hf0,hf1,hFG,hown,hxr,hbw⟩:=hrel
      have HO:=hide hown;have HX3:=hide hxr;have HW:=hide hbw;have HFG:=hide hFG
      have HXL:=hide (flat_len hxr)
      clear hown hxr hbw hFG HO2 HX HW2 HFY
      by_cases hjn:j < N
      ·have hji:(j:Int) < N:=by omega
       obtain ⟨c0,c1,c2,c3,c4⟩:=(lots_of_row HX3.out) j (by rw [HXL.out];exact hjn)
       have HD:=hide (Ra.drop_nth (l:=X) (k:=j) (by rw [HXL.out];exact hjn))
       have hxq:=HXP.out _ (Cv.nth_mem (l:=X) (i:=j) (by rw [HXL.out];exact hjn))
       have HDP:Hid (Ra.Pos (X.drop j)):=fun y hy=>HXP.out y (List.mem_of_mem_drop hy)
       generalize Cv.nth X j = x at *
       rw [Nat.zero_add] at c0 c1 c2 c3 c4
       by_cases h0:lft = 0
       ·subst h0
        have hmin:min x.q 0 = 0:=by omega
        have HR:Hid (wr.ownsRow w.heap.size 227 2 u9 F.length (fcells F)):=by
         have h1:=HFG.out
         rw [Ra.rest_zero _ _ _ HDP.out,List.append_nil] at h1
         rw [← h1]
         exact row_base HO.out HB1.out.size
        have HB:Hid (Below w.heap.size w wr):=HB1.out.trans (HW.out.mono HB1.out.size)
        clear HO HX3 HFG HD HDP
        go_wp2
        go_ret
        exact ⟨_,rfl,HR.out.alloc _,HB.out.alloc HB.out.size _⟩
       ·obtain ⟨t,ht⟩:∃ t,min x.q lft = t:=⟨_,rfl⟩
        have ht1:1≤t:=by omega
        have ht2:t≤lft:=by omega
        have htb:(t == 0) = false:=by simp;omega
        have HF2:Hid ((F1++[(x.id,t)])++Ra.rest (Ra.sh s) f (X.drop (j + 1)) (qs.drop (k + 1)) (lft - t) = F):=by
         have h1:=HFG.out
         rw [HD.out,Ra.rest_cons _ _ _ _ (by have:=HDP.out;rw [HD.out] at this;exact this) _ _ (by omega),ht] at h1
         show _ = _
         rw [← h1];simp
        have HLN:Hid (F1.length + 1≤1000):=by
         have h1:=hFl.out
         rw [← HF2.out] at h1
         simp at h1
         show _≤_
         omega
        clear HFG HD HDP
        go_wp2_with (at_builtin;refine wpList_append_own _ rfl _ _ 221 rfl w1.heap.size 227 i0 z0 2 16 Tryz.underlying221 Hi.out Hz0.out Hz1.out Hz2.out Hz3.out (by decide) _ _ _ rfl ((HO.out.alloc _).alloc _) ⟨wr.heap.size + 1,0,none⟩ 1 1 [.int .i64 x.id,.int .i64 t] rfl rfl ?d1 ?d2 ?d3 ?d4 ?d5 ?_)
        case d1=>exact fun j u hj=>cell_new2 _ _ _ _ _ (by simp) j u hj
        case d2 => intro u hu
                   simp only [List.mem_cons,List.not_mem_nil,or_false] at hu
                   rcases hu with rfl | rfl <;> rfl
        case d3=>have:=HLN.out;unfold maxLen;omega
        case d4=>have:=HLN.out;omega
        case d5=>have:=HW.out.size;simp;omega
        intro v3 w3 hown' hgrow _
        have HO3:Hid (w3.ownsRow w1.heap.size 227 2 v3 (F1++[(x.id,t)]).length (fcells (F1++[(x.id,t)]))):=by
         show w3.ownsRow _ _ _ _ _ _
         rw [fcells_snoc,List.length_append]
         exact hown'
        have hlt3:=HO.out.lt
        have HX4:Hid (w3.ownsRow 0 137 5 (.slice (some ⟨rx,0,none⟩) N capx) N (flat X)):=((HX3.out.alloc _).alloc _).kept hgrow (rows_apart HX3.out HO.out (by decide))
        have HW3:Hid (Below w1.heap.size w1 w3):=((HW.out.alloc HW.out.size _).alloc (by have:=HW.out.size;simp;omega) _).grown hgrow (by have:=HW.out.size;simp;omega) (fun j hj=>(hlt3 j hj).1)
        clear hown' hgrow HO HX3 HW hlt3 c0 c1 c2 c3 c4
        go_wp2
        exact ⟨⟨j + 1,lft - t,F1++[(x.id,t)],by omega,by go_num,by go_num,by omega,by omega,HF2.out,HO3.out,HX4.out,HW3.out⟩,by simp [intOf];omega⟩
      ·have hji:¬ (j:Int) < N:=by omega
       have HF2:Hid (F1++Ra.sfF (Ra.sh s) f (qs.drop (k + 1)) lft = F):=by
        have h1:=HFG.out
        rw [List.drop_of_length_le (by rw [HXL.out];omega),Ra.rest_nil _ _ _ _ hf0] at h1
        exact h1
       clear HFG HX3
       go_wp2
       exact ⟨⟨k + 1,lft,F1,by omega,by go_num,rfl,hf0,by omega,HF2.out,HO.out,HW.out⟩,by simp [intOf];omega⟩
    ·obtain ⟨X,HXE⟩:∃ X,Hid (f p = X):=⟨_,rfl⟩
     obtain ⟨rx,hrx⟩:∃ rx,r = rx:=⟨_,rfl⟩
     obtain ⟨capx,hcx⟩:∃ capx,capr = capx:=⟨_,rfl⟩
     subst hrx hcx
     have HFY:Hid (F0++Ra.rest (Ra.sh s) f (X.drop 0) (qs.drop (k + 1)) left = F):=by
      have h1:=HFX.out
      unfold Ra.arr at h1
      rw [if_neg (by rw [HQ.out];exact hql),HXE.out] at h1
      exact h1
     have HX:Hid (wr.ownsRow 0 137 5 (.slice (some ⟨r,0,none⟩) N capr) N (flat X)):=by rw [← HXE.out];exact row_base HROW.out (Nat.zero_le _)
     have HXP:Hid (Ra.Pos X):=fun x hx=>HPOS.out x (by rw [HXE.out];exact hx)
     have HW2:=HW
     have HO2:=HO
     go_wp2_with (at_lookup;refine wpList_lookup_run rfl _ _ 309 rfl _ _ _ rfl rfl hrun ?_)
     clear cp HROW HO HW hrun f0 f1
     go_loopw [9,10,41] (fun vf lf i wx=>∃ (j:Nat) (lft:Int) (F1:List (Int × Int)),j≤N∧i = .int .i64 j∧lf = .int .i64 lft∧0≤lft∧lft≤left∧F1++Ra.rest (Ra.sh s) f (X.drop j) (qs.drop (k + 1)) lft = F∧wx.ownsRow w1.heap.size 227 2 vf F1.length (fcells F1)∧wx.ownsRow 0 137 5 (.slice (some ⟨r,0,none⟩) N capr) N (flat X)∧Below w1.heap.size w1 wx) (fun _ _ i _=>N - (intOf i).toNat)
     case atStart=>exact ⟨0,left,F0,Nat.zero_le _,rfl,rfl,hl0,Int.le_refl _,HFY.out,HO2.out,HX.out,HW2.out⟩
     case round =>
      obtain ⟨j,lft,F1,hj,rfl,rfl,hf0,hf1,hFG,hown,hxr,hbw⟩:=hrel
      have HO:=hide hown;have HX3:=hide hxr;have HW:=hide hbw;have HFG:=hide hFG
      have HXL:=hide (flat_len hxr)
      clear hown hxr hbw hFG HO2 HX HW2 HFY
      by_cases hjn:j < N
      ·have hji:(j:Int) < N:=by omega
       obtain ⟨c0,c1,c2,c3,c4⟩:=(lots_of_row HX3.out) j (by rw [HXL.out];exact hjn)
       have HD:=hide (Ra.drop_nth (l:=X) (k:=j) (by rw [HXL.out];exact hjn))
       have hxq:=HXP.out _ (Cv.nth_mem (l:=X) (i:=j) (by rw [HXL.out];exact hjn))
       have HDP:Hid (Ra.Pos (X.drop j)):=fun y hy=>HXP.out y (List.mem_of_mem_drop hy)
       generalize Cv.nth X j = x at *
       rw [Nat.zero_add] at c0 c1 c2 c3 c4
       by_cases h0:lft = 0
       ·subst h0
        have hmin:min x.q 0 = 0:=by omega
        have HR:Hid (wr.ownsRow w.heap.size 227 2 u9 F.length (fcells F)):=by
         have h1:=HFG.out
         rw [Ra.rest_zero _ _ _ HDP.out,List.append_nil] at h1
         rw [← h1]
         exact row_base HO.out HB1.out.size
        have HB:Hid (Below w.heap.size w wr):=HB1.out.trans (HW.out.mono HB1.out.size)
        clear HO HX3 HFG HD HDP
        go_wp2
        go_ret
        exact ⟨_,rfl,HR.out.alloc _,HB.out.alloc HB.out.size _⟩
       ·obtain ⟨t,ht⟩:∃ t,min x.q lft = t:=⟨_,rfl⟩
        have ht1:1≤t:=by omega
        have ht2:t≤lft:=by omega
        have htb:(t == 0) = false:=by simp;omega
        have HF2:Hid ((F1++[(x.id,t)])++Ra.rest (Ra.sh s) f (X.drop (j + 1)) (qs.drop (k + 1)) (lft - t) = F):=by
         have h1:=HFG.out
         rw [HD.out,Ra.rest_cons _ _ _ _ (by have:=HDP.out;rw [HD.out] at this;exact this) _ _ (by omega),ht] at h1
         show _ = _
         rw [← h1];simp
        have HLN:Hid (F1.length + 1≤1000):=by
         have h1:=hFl.out
         rw [← HF2.out] at h1
         simp at h1
         show _≤_
         omega
        clear HFG HD HDP
        go_wp2_with (at_builtin;refine wpList_append_own _ rfl _ _ 221 rfl w1.heap.size 227 i0 z0 2 16 Tryz.underlying221 Hi.out Hz0.out Hz1.out Hz2.out Hz3.out (by decide) _ _ _ rfl ((HO.out.alloc _).alloc _) ⟨wr.heap.size + 1,0,none⟩ 1 1 [.int .i64 x.id,.int .i64 t] rfl rfl ?d1 ?d2 ?d3 ?d4 ?d5 ?_)
        case d1=>exact fun j u hj=>cell_new2 _ _ _ _ _ (by simp) j u hj
        case d2 => intro u hu
                   simp only [List.mem_cons,List.not_mem_nil,or_false] at hu
                   rcases hu with rfl | rfl <;> rfl
        case d3=>have:=HLN.out;unfold maxLen;omega
        case d4=>have:=HLN.out;omega
        case d5=>have:=HW.out.size;simp;omega
        intro v3 w3 hown' hgrow _
        have HO3:Hid (w3.ownsRow w1.heap.size 227 2 v3 (F1++[(x.id,t)]).length (fcells (F1++[(x.id,t)]))):=by
         show w3.ownsRow _ _ _ _ _ _
         rw [fcells_snoc,List.length_append]
         exact hown'
        have hlt3:=HO.out.lt
        have HX4:Hid (w3.ownsRow 0 137 5 (.slice (some ⟨r,0,none⟩) N capr) N (flat X)):=((HX3.out.alloc _).alloc _).kept hgrow (rows_apart HX3.out HO.out (by decide))
        have HW3:Hid (Below w1.heap.size w1 w3):=((HW.out.alloc HW.out.size _).alloc (by have:=HW.out.size;simp;omega) _).grown hgrow (by have:=HW.out.size;simp;omega) (fun j hj=>(hlt3 j hj).1)
        clear hown' hgrow HO HX3 HW hlt3 c0 c1 c2 c3 c4
        go_wp2
        exact ⟨⟨j + 1,lft - t,F1++[(x.id,t)],by omega,by go_num,by go_num,by omega,by omega,HF2.out,HO3.out,HX4.out,HW3.out⟩,by simp [intOf];omega⟩
      ·have hji:¬ (j:Int) < N:=by omega
       have HF2:Hid (F1++Ra.sfF (Ra.sh s) f (qs.drop (k + 1)) lft = F):=by
        have h1:=HFG.out
        rw [List.drop_of_length_le (by rw [HXL.out];omega),Ra.rest_nil _ _ _ _ hf0] at h1
        exact h1
       clear HFG HX3
       go_wp2
       exact ⟨⟨k + 1,lft,F1,by omega,by go_num,rfl,hf0,by omega,HF2.out,HO.out,HW.out⟩,by simp [intOf];omega⟩
   ·have hki:¬ (k:Int) < m:=by omega
    have HO':Hid (wr.ownsRow w.heap.size 227 2 u9 F.length (fcells F)):=by
     have h1:=HFF.out
     rw [List.drop_of_length_le (by rw [HM.out];omega)] at h1
     have h2:F0 = F:=by rw [← h1];simp [Ra.sfF,Ra.rowF,Ra.fill]
     have:=HO.out
     rw [h2] at this
     exact row_base this HB1.out.size
    have HB:Hid (Below w.heap.size w wr):=HB1.out.trans (HW.out.mono HB1.out.size)
    clear HO HFF
    go_wp2
    go_ret
    exact ⟨_,rfl,HO'.out,HB.out⟩
end Go.Proofs.YtidahfhingdlmaaGreatDoor
namespace Go.Proofs.YtidahfhingdlmaaGreatDoor
namespace Ra
open Cv
def pj (sd:Int) (j:Nat):Int:=if sd = 0 then 1000 - (j:Int) else 1 + (j:Int)
def cnt (sd price:Int):Nat:=if sd = 0 then (1001 - price).toNat else price.toNat
def full (sd price:Int):List Int:=(List.range (cnt sd price)).map (pj sd)
theorem falls_full (sd price:Int):Falls sd (full sd price):=by
 refine List.pairwise_map.2 (List.pairwise_lt_range.imp fun {a b} h=>?_)
 unfold pj better
 split <;> simp <;> omega
theorem mem_full {sd price p:Int} (h1:1≤price) (h2:price≤1000):p∈full sd price↔(1≤p∧p≤1000)∧better sd price p = false:=by
 unfold full cnt pj better
 by_cases hs:sd = 0
 ·simp only [hs,if_true,List.mem_map,List.mem_range,decide_eq_false_iff_not]
  constructor
  ·rintro ⟨j,hj,rfl⟩;omega
  ·rintro ⟨⟨h3,h4⟩,h5⟩;exact ⟨(1000 - p).toNat,by omega,by omega⟩
 ·simp only [hs,if_false,List.mem_map,List.mem_range,decide_eq_false_iff_not]
  constructor
  ·rintro ⟨j,hj,rfl⟩;omega
  ·rintro ⟨⟨h3,h4⟩,h5⟩;exact ⟨(p - 1).toNat,by omega,by omega⟩
def qsOf (l:List Lot) (sd price:Int):List Int:=(full sd price).filter fun p=>!(lv l sd p).isEmpty
theorem falls_qs (l:List Lot) (sd price:Int):Falls sd (qsOf l sd price):=(falls_full sd price).filter _
theorem lf_lv (l:List Lot) {sd price p:Int} (h:better sd price p = false):lf sd price l p = lv l sd p:=by
 unfold lf lv
 refine List.filter_congr fun x _=>?_
 unfold el
 by_cases e:x.pr = p
 ·rw [e,h];simp
 ·have e2:(x.pr == p) = false:=by simpa using e
  rw [e2];simp
theorem mem_lf {l:List Lot} {sd price p:Int} (ho:Oks l) (h:lf sd price l p≠[]):(1≤p∧p≤1000)∧better sd price p = false:=by
 obtain ⟨x,hx⟩:=List.exists_mem_of_ne_nil _ h
 obtain ⟨hx1,hx2⟩:=List.mem_filter.1 hx
 simp only [el,Bool.and_eq_true,beq_iff_eq,Bool.not_eq_true'] at hx2
 have:=(ok_bounds (ho x hx1)).2.2.2.1
 rw [← hx2.2]
 exact ⟨this,hx2.1.2⟩
theorem mem_qs {l:List Lot} {sd price p:Int} (ho:Oks l) (h1:1≤price) (h2:price≤1000):p∈qsOf l sd price↔lf sd price l p≠[]:=by
 unfold qsOf
 rw [List.mem_filter,mem_full h1 h2]
 constructor
 ·rintro ⟨⟨_,hb⟩,hne⟩
  rw [lf_lv l hb];simpa using hne
 ·intro h
  obtain ⟨h3,hb⟩:=mem_lf ho h
  rw [lf_lv l hb] at h
  exact ⟨⟨h3,hb⟩,by simpa using h⟩
theorem pos_of_oks {l:List Lot} (h:Oks l):Pos l:=fun x hx=>((ok_bounds (h x hx)).2.2.2.2).1
def side (s:Int) (l:List Lot) (sd price v:Int):List (Int × Int):=sf (sh s) l sd (full sd price) v
theorem side_is (s:Int) {l:List Lot} (ho:Oks l) (sd price v:Int) (hv:0≤v):side s l sd price v = fill (row (sh s) l sd (qsOf l sd price) v) v:=by
 unfold side
 rw [← sf_filter (mix_sh s) (pos_of_oks ho) sd (full sd price) v hv];rfl
theorem side_share (s:Int) {l:List Lot} (ho:Oks l) (sd price v:Int) (h1:1≤price) (h2:price≤1000) (hv:0≤v):sfF (sh s) (lf sd price l) (qsOf l sd price) v = side s l sd price v:=by
 rw [side_is s ho sd price v hv]
 unfold sfF
 rw [rowF_is (sh s) l sd _ _ _ fun p hp=>lf_lv l (mem_lf ho ((mem_qs ho h1 h2).1 hp)).2]
theorem ps_up (l:List Lot) (sd price:Int):(if sd = 0 then (qsOf l sd price).reverse else qsOf l sd price).Pairwise (· < ·):=by
 have h:=falls_qs l sd price
 unfold Falls at h
 split
 ·rename_i e
  subst e
  rw [List.pairwise_reverse]
  exact h.imp fun h=>by simpa [better] using h
 ·rename_i e
  exact h.imp fun h=>by simpa [better,e] using h
theorem nodup_qs (l:List Lot) (sd price:Int):(qsOf l sd price).Nodup:=(falls_qs l sd price).imp fun {a b} h e=>by
 rw [e,better_irrefl] at h;cases h
theorem order_perm (s:Int) {l:List Lot} (ho:Oks l) (sd price v:Int) (h1:1≤price) (h2:price≤1000):(row (sh s) l sd (qsOf l sd price) v).Perm (l.filter (el sd price)):=by
 refine (row_perm (mix_sh s) l sd _ v).trans ((levels_perm l sd _ (nodup_qs l sd price)).trans ?_)
 rw [List.filter_congr (q:=el sd price) fun x hx=>?_]
 unfold el
 cases hs:x.sd == sd
 ·rfl
 ·simp only [Bool.true_and]
  cases hb:better sd price x.pr
  ·rw [Bool.not_false,List.contains_iff_mem,mem_qs ho h1 h2]
   intro e
   have:x∈lf sd price l x.pr:=List.mem_filter.2 ⟨hx,by simp [el,hs,hb]⟩
   rw [e] at this;cases this
  ·rw [Bool.not_true]
   refine Bool.eq_false_iff.2 fun e=>?_
   have:=(mem_lf ho ((mem_qs ho h1 h2).1 (List.contains_iff_mem.1 e))).2
   rw [hb] at this;cases this
theorem fill_length:∀ (l:List Lot) (v:Int),(fill l v).length≤l.length
 | [],_=>Nat.le_refl _
 | x :: l,v=>by
  rw [fill]
  split
  ·exact Nat.zero_le _
  ·have:=fill_length l (v - min x.q v)
   simp;omega
theorem side_length (s:Int) {l:List Lot} (ho:Oks l) (sd price v:Int) (h1:1≤price) (h2:price≤1000) (hv:0≤v):(side s l sd price v).length≤l.length:=by
 rw [side_is s ho sd price v hv]
 exact Nat.le_trans (fill_length _ _) (by rw [(order_perm s ho sd price v h1 h2).length_eq];exact List.length_filter_le _ _)
theorem tot_el (l:List Lot) (price:Int):tot (l.filter (el 0 price)) = demand l price∧tot (l.filter (el 1 price)) = supply l price:=by
 refine ⟨?_,?_⟩
 ·rw [tot_filter]
  refine sumIf_congr l fun x _=>?_
  unfold el dB better
  by_cases h:price≤x.pr
  ·rw [decide_eq_true h,if_pos rfl,decide_eq_false (by omega)];rfl
  ·rw [decide_eq_false h,if_pos rfl,decide_eq_true (by omega)];rfl
 ·rw [tot_filter]
  refine sumIf_congr l fun x _=>?_
  unfold el sB better
  by_cases h:x.pr≤price
  ·rw [decide_eq_true h,if_neg (by decide),decide_eq_false (by omega)];rfl
  ·rw [decide_eq_false h,if_neg (by decide),decide_eq_true (by omega)];rfl
end Ra
end Go.Proofs.YtidahfhingdlmaaGreatDoor
namespace Go.Proofs.YtidahfhingdlmaaGreatDoor
open Go.RowKit
set_option maxRecDepth 100000
theorem share_side (sd price v s:Int) (B base n:Nat) (l:List Cv.Lot) (w:World) (hs:Ra.IsU s) (hv0:0≤v) (hv1:v≤1000000) (hL:Levels w base B n (lf sd price l)) (hn:n≤1000) (hok:Cv.Oks l) (hll:l.length≤120) (h1:1≤price) (h2:price≤1000) :
  Calls Tryz.prog 199 #[.map (some B),.int .i64 sd,.int .i64 v,.int .u32 s] w fun e w'=>∃ v',e = .returned v'∧w'.ownsRow w.heap.size 227 2 v' (Ra.side s l sd price v).length (fcells (Ra.side s l sd price v))∧Below w.heap.size w w':=by
 have hlq:(Ra.qsOf l sd price).length≤1000:=by
  refine Nat.le_trans (List.length_filter_le _ _) ?_
  unfold Ra.full Ra.cnt
  rw [List.length_map,List.length_range]
  split <;> omega
 refine share_of sd v s B base n (lf sd price l) (if sd = 0 then (Ra.qsOf l sd price).reverse else Ra.qsOf l sd price) (Ra.qsOf l sd price) _ w hs hv0 hv1 hL hn (Ra.ps_up l sd price) (fun p=>?_) (fun p=>hok.filter _) (fun p=>Nat.le_trans (List.length_filter_le _ _) (by omega)) ?_ (fun p hp=>?_) (Ra.side_share s hok sd price v h1 h2 hv0) (Nat.le_trans (Ra.side_length s hok sd price v h1 h2 hv0) (by omega)) hlq
 ·split
  ·rw [List.mem_reverse];exact Ra.mem_qs hok h1 h2
  ·exact Ra.mem_qs hok h1 h2
 ·show _ = _
  split <;> simp
 ·have h3:=(Ra.mem_qs hok h1 h2).1 hp
  exact ⟨h3,(Ra.mem_lf hok h3).1⟩
/-! check -/
set_option maxHeartbeats 400000 in
theorem rcheck_more (a:Option Addr) (n cap:Nat) (price vol most:Int) (T:TypeId) (v2:Value) (w:World) (hc:Hid (Calls Tryz.prog 189 #[.slice a n cap] w fun e w'=>e = .returned .nilIface∧Below w.heap.size w w')) (c2:w.cell? ⟨3,0,none⟩ = some (.iface T v2)) (hp:Hid (Wi.withinB price 1 1000 = true)) (hv:¬ vol < 0)
  (hm:Hid (∀ w1,Below w.heap.size w w1→Calls Tryz.prog 230 #[.slice a n cap,.int .i64 price] w1 fun e w'=>e = .returned (.int .i64 most)∧Below w1.heap.size w1 w')) :
  Calls Tryz.prog 197 #[.slice a n cap,.int .i64 price,.int .i64 vol] w fun e w'=>e = .returned (if most < vol then .iface T v2 else .nilIface)∧Below w.heap.size w w':=by
 have h0:(0:Int)≤vol:=by omega
 by_cases hb:most < vol
 all_goals
  first | rw [if_pos hb] | rw [if_neg hb]
  go_enter Tryz.func197,Tryz.ntmps197
  go_wp2_with fail
  refine hc.out.mono ?_
  rintro e w1 ⟨rfl,hb1⟩
  have HB1:=hide hb1
  have d2:=cell_later hb1 c2
  clear hb1
  simp only []
  go_wp2_with fail
  refine (within_any _ _ _ _).mono ?_
  rintro e w2 ⟨rfl,rfl⟩
  rw [hp.out]
  simp only []
  go_wp2_with fail
  refine (hm.out _ HB1.out).mono ?_
  rintro e w3 ⟨rfl,hb3⟩
  have HB3:=hide (HB1.out.trans (hb3.mono HB1.out.size))
  have d3:=cell_later HB3.out c2
  clear hb3 d2
  simp only []
  go_wp2
  go_ret
  exact ⟨rfl,HB3.out⟩
/-! Fills -/
theorem row_later {w w':World} {base:Nat} {e:TypeId} {size:Nat} {v:Value} {n:Nat} {xs:List Value} (h:w.ownsRow base e size v n xs) (hb:Below w.heap.size w w'):w'.ownsRow base e size v n xs :=
 h.kept (row:=none) ⟨hb.os,hb.tape,hb.output,hb.size,fun i hi _=>hb.block i hi⟩ (by
  cases e:v.ownBlock with
  | none=>exact .inl rfl
  | some _=>exact .inr (by simp))
theorem fcells_append (F G:List (Int × Int)):fcells (F++G) = fcells F++fcells G:=by simp [fcells]
theorem fcells_length (F:List (Int × Int)):(fcells F).length = F.length * 2:=by
 induction F with
 | nil=>rfl
 | cons f F ih=>simp [fcells] at ih ⊢;omega
theorem fcells_one (F:List (Int × Int)):∀ u∈fcells F,u.oneCell' = true:=fun u hu=>by
 obtain ⟨f,_,hf⟩:=List.mem_flatMap.1 hu
 simp only [List.mem_cons,List.not_mem_nil,or_false] at hf
 rcases hf with rfl | rfl <;> rfl
set_option maxHeartbeats 1000000 in
theorem fills_of (a:Option Addr) (n cap:Nat) (price vol s s1:Int) (l:List Cv.Lot) (F0 F1:List (Int × Int)) (w:World) (hck:Hid (Calls Tryz.prog 197 #[.slice a n cap,.int .i64 price,.int .i64 vol] w fun e w'=>e = .returned .nilIface∧Below w.heap.size w w'))
  (hv:Hid (Lots w (.slice a n cap) l)) (hok:Hid (Cv.Well l)) (h1:1≤price) (h2:price≤1000) (hv0:0≤vol) (hv1:vol≤1000000) (hs:Hid (Ra.IsU s)) (hs1:Hid (Ra.IsU s1)) (hse:(s = 4294967295∧s1 = 0)∨(0≤s∧s < 4294967295∧s1 = s + 1))
  (hF0:Hid (Ra.side s l 0 price vol = F0)) (hF1:Hid (Ra.side s1 l 1 price vol = F1)) (hl0:F0.length≤120) (hl1:F1.length≤120) :
  Calls Tryz.prog 164 #[.slice a n cap,.int .i64 price,.int .i64 vol,.int .u32 s] w fun e w'=>∃ v',e = .returned (.tuple #[v',.nilIface])∧w'.ownsRow w.heap.size 227 2 v' (F0++F1).length (fcells (F0++F1))∧Below w.heap.size w w':=by
 obtain ⟨i0,z0,hi,hz0,hz1,hz2,hz3⟩:=info45
 have Hi:=hide hi;have Hz0:=hide hz0;have Hz1:=hide hz1;have Hz2:=hide hz2;have Hz3:=hide hz3
 clear hi hz0 hz1 hz2 hz3
 have hl12:l.length≤120:=hok.out.1
 rcases hse with ⟨rfl,rfl⟩ | ⟨hs0,hs2,rfl⟩
 all_goals
  go_enter Tryz.func164,Tryz.ntmps164
  go_wp2_with fail
  refine hck.out.mono ?_
  rintro e w1 ⟨rfl,hb1⟩
  have HB1:=hide hb1
  clear hb1
  simp only []
  go_wp2_with fail
  refine (levelsOf_any _ 0 price l w1 (hv.out.later HB1.out) hok.out).mono ?_
  rintro e w2 ⟨rfl,hL2,hb2⟩
  have HB2:=hide (HB1.out.trans (hb2.mono HB1.out.size));have HL2:=hide hL2
  clear hb2 hL2
  simp only []
  go_wp2_with fail
  refine (share_side 0 price vol _ _ _ _ l w2 hs.out hv0 hv1 HL2.out (by omega) hok.out.oks hl12 h1 h2).mono ?_
  rintro e w3 ⟨vb,rfl,hrb,hb3⟩
  rw [hF0.out] at hrb
  have HRB:=hide (row_base hrb HB2.out.size);have HB3:=hide (HB2.out.trans (hb3.mono HB2.out.size))
  clear hrb hb3
  simp only []
  go_wp2_with fail
  refine (levelsOf_any _ 1 price l w3 (hv.out.later HB3.out) hok.out).mono ?_
  rintro e w4 ⟨rfl,hL4,hb4⟩
  have HB4:=hide (HB3.out.trans (hb4.mono HB3.out.size));have HL4:=hide hL4;have HRB4:=hide (row_later HRB.out hb4)
  clear hb4 hL4
  simp only []
  go_wp2_with fail
  refine (share_side 1 price vol _ _ _ _ l w4 hs1.out hv0 hv1 HL4.out (by omega) hok.out.oks hl12 h1 h2).mono ?_
  rintro e w5 ⟨vs,rfl,hrs,hb5⟩
  rw [hF1.out] at hrs
  have HRS:=hide (row_base hrs HB4.out.size);have HB5:=hide (HB4.out.trans (hb5.mono HB4.out.size));have HRB5:=hide (row_later HRB4.out hb5)
  clear hrs hb5 HRB HRB4 HL2 HL4
  simp only []
  rcases HRS.out.2 with ⟨rfl,h0⟩ | ⟨rs,cs,curs,rfl,_⟩
  ·have HF1:Hid (F1 = []):=List.eq_nil_of_length_eq_zero h0
   have HR:Hid (w5.ownsRow w.heap.size 227 2 vb (F0++F1).length (fcells (F0++F1))):=by
    rw [HF1.out,List.append_nil];exact HRB5.out
   clear h0
   rcases HRB5.out.2 with ⟨rfl,_⟩ | ⟨rb,cb,curb,rfl,_,_,hcb,_⟩
   ·clear HRB5 HRS
    go_wp2
    go_ret2
    exact ⟨_,rfl,HR.out,HB5.out⟩
   ·clear HRB5 HRS
    go_wp2
    go_ret2
    exact ⟨_,rfl,HR.out,HB5.out⟩
  ·have HC:Hid (∀ j u,(fcells F1)[j]? = some u→w5.cell? ((⟨rs,0,none⟩:Addr).add j) = some u):=fun j u hu=>World.ownsRow.cells HRS.out (g:=rs) rfl j u hu
   go_wp2_with (at_builtin;refine wpList_append_own _ rfl _ _ 221 rfl w.heap.size 227 i0 z0 2 16 Tryz.underlying221 Hi.out Hz0.out Hz1.out Hz2.out Hz3.out (by decide) _ _ _ rfl HRB5.out ⟨rs,0,none⟩ F1.length cs (fcells F1) rfl (fcells_length F1) HC.out (fcells_one F1) ?d3 ?d4 ?d5 ?_)
   case d3=>unfold maxLen;omega
   case d4=>omega
   case d5=>exact HB5.out.size
   intro v6 w6 hown6 hgrow6 _
   have HR:Hid (w6.ownsRow w.heap.size 227 2 v6 (F0++F1).length (fcells (F0++F1))):=by
    show World.ownsRow _ _ _ _ _ _ _
    rw [fcells_append,List.length_append]
    exact hown6
   have hlt:=HRB5.out.lt
   have HB6:Hid (Below w.heap.size w w6):=HB5.out.grown hgrow6 HB5.out.size (fun j hj=>(hlt j hj).1)
   clear hown6 hgrow6 HRS HC HRB5 hlt
   go_wp2
   go_ret2
   exact ⟨_,rfl,HR.out,HB6.out⟩
def fnth (F:List (Int × Int)) (i:Nat):Int × Int:=F.getD i (0,0)
def Fls (w:World) (v:Value) (F:List (Int × Int)):Prop :=
 (F = []∧∃ a cap,v = .slice a 0 cap)∨∃ b cap,v = .slice (some ⟨b,0,none⟩) F.length cap∧∀ i,i < F.length→w.cell? ⟨b,i * 2,none⟩ = some (.int .i64 (fnth F i).1)∧w.cell? ⟨b,i * 2 + 1,none⟩ = some (.int .i64 (fnth F i).2)
theorem Fls.later {w w':World} {v:Value} {F:List (Int × Int)} (h:Fls w v F) (hb:Below w.heap.size w w'):Fls w' v F:=by
 rcases h with h | ⟨b,cap,h1,h2⟩
 ·exact .inl h
 ·exact .inr ⟨b,cap,h1,fun i hi=>⟨cell_later hb (h2 i hi).1,cell_later hb (h2 i hi).2⟩⟩
theorem fcells_at:∀ (F:List (Int × Int)) (i:Nat),i < F.length→(fcells F)[i * 2]? = some (.int .i64 (fnth F i).1)∧(fcells F)[i * 2 + 1]? = some (.int .i64 (fnth F i).2)
 | [],i,h=>absurd h (Nat.not_lt_zero i)
 | f :: F,0,_=>by simp [fcells,fnth]
 | f :: F,i + 1,h=>by
  have ih:=fcells_at F i (by simpa using h)
  have e:fcells (f :: F) = .int .i64 f.1 :: .int .i64 f.2 :: fcells F:=rfl
  rw [e,show (i + 1) * 2 = i * 2 + 1 + 1 by omega]
  refine ⟨?_,?_⟩
  ·rw [List.getElem?_cons_succ,List.getElem?_cons_succ,ih.1];rfl
  ·rw [List.getElem?_cons_succ,List.getElem?_cons_succ,ih.2];rfl
theorem fls_of {w:World} {base:Nat} {v:Value} {F:List (Int × Int)} (h:w.ownsRow base 227 2 v F.length (fcells F)):Fls w v F:=by
 rcases h.2 with ⟨h1,h2⟩ | ⟨g,cap,cur,h1,_⟩
 ·exact .inl ⟨List.eq_nil_of_length_eq_zero h2,none,0,h1⟩
 ·refine .inr ⟨g,cap,h1,fun i hi=>?_⟩
  have key:∀ j u,(fcells F)[j]? = some u→w.cell? ⟨g,j,none⟩ = some u:=fun j u hu=>by
   have:=World.ownsRow.cells h (g:=g) (by rw [h1];rfl) j u hu
   have hp:(⟨g,0,none⟩:Addr).add j = ⟨g,j,none⟩:=by unfold Addr.add;split <;> simp_all
   rwa [hp] at this
  exact ⟨key _ _ (fcells_at F i hi).1,key _ _ (fcells_at F i hi).2⟩
theorem take_fnth {F:List (Int × Int)} {k:Nat} (h:k < F.length):F.take (k + 1) = F.take k++[fnth F k]:=by
 unfold fnth;rw [List.take_succ_eq_append_getElem h,List.getD_eq_getElem?_getD,List.getElem?_eq_getElem h];rfl
namespace Ra
def Fine (l:List Cv.Lot) (price vol:Int):Prop:=Cv.Well l∧(1≤price∧price≤1000)∧0≤vol∧vol≤Cv.volume l price
def nextSeed (s:Int):Int:=if s = 4294967295 then 0 else s + 1
def fills (s:Int) (l:List Cv.Lot) (price vol:Int):List (Int × Int):=side s l 0 price vol++side (nextSeed s) l 1 price vol
theorem nextSeed_u {s:Int} (h:IsU s):IsU (nextSeed s):=by
 unfold nextSeed;split
 ·exact ⟨by omega,by omega⟩
 ·exact ⟨by have:=h.1;omega,by have:=h.2;omega⟩
theorem fills_length (s:Int) {l:List Cv.Lot} {price vol:Int} (h:Fine l price vol):(side s l 0 price vol).length≤120∧(side (nextSeed s) l 1 price vol).length≤120:=by
 obtain ⟨h1,⟨h2,h3⟩,h4,_⟩:=h
 have:=h1.1
 exact ⟨Nat.le_trans (side_length _ h1.oks 0 price vol h2 h3 h4) this,Nat.le_trans (side_length _ h1.oks 1 price vol h2 h3 h4) this⟩
end Ra
theorem vol_le {l:List Cv.Lot} (h:Cv.Well l) (p:Int):Cv.volume l p≤120000:=by
 have:=Cv.demand_range l p h
 unfold Cv.volume
 omega
/-! the closed fact -/
def two:List Cv.Lot:=[⟨1,0,0,10,5⟩,⟨2,0,1,8,4⟩]
end Go.Proofs.YtidahfhingdlmaaGreatDoor
namespace Go.Proofs.YtidahfhingdlmaaGreatDoor
namespace Ra
open Cv
theorem once_of_well {l:List Lot} (h:Well l):Once l:=by
 unfold Once
 rw [List.nodup_iff_pairwise_ne,List.pairwise_iff_getElem]
 intro i j hi hj hij
 rw [List.length_map] at hi hj
 rw [List.getElem_map,List.getElem_map]
 intro e
 have h2:=h.2 j hj
 simp only [okAt,Bool.and_eq_true,Bool.not_eq_true'] at h2
 have h3:=h2.2
 unfold has at h3
 rw [List.any_eq_false] at h3
 refine h3 l[i] (List.mem_take_iff_getElem.2 ⟨i,by omega,rfl⟩) ?_
 have e2:nth l j = l[j]:=by unfold nth;rw [List.getD_eq_getElem?_getD,List.getElem?_eq_getElem hj];rfl
 rw [e2,e];simp
theorem once_eq {l:List Lot} (h:Once l) {x y:Lot} (hx:x∈l) (hy:y∈l) (e:x.id = y.id):x = y:=by
 obtain ⟨a,b,rfl⟩:=List.append_of_mem hx
 unfold Once at h
 rw [List.map_append,List.map_cons,List.nodup_append] at h
 obtain ⟨_,h2,h3⟩:=h
 obtain ⟨h4,_⟩:=List.nodup_cons.1 h2
 rcases List.mem_append.1 hy with hy | hy
 ·exact absurd e.symm (h3 _ (List.mem_map.2 ⟨y,hy,rfl⟩) _ List.mem_cons_self)
 ·rcases List.mem_cons.1 hy with hy | hy
  ·exact hy.symm
  ·exact absurd (List.mem_map.2 ⟨y,hy,e.symm⟩) h4
theorem once_filter {l:List Lot} (h:Once l) (f:Lot→Bool):Once (l.filter f):=by
 unfold Once at *
 exact List.Nodup.sublist (List.Sublist.map _ List.filter_sublist) h
def seedFor (s sd:Int):Int:=if sd = 0 then s else nextSeed s
def ord (s:Int) (l:List Lot) (sd price vol:Int):List Lot:=row (sh (seedFor s sd)) l sd (qsOf l sd price) vol
theorem ord_perm {l:List Lot} {price vol:Int} (hf:Fine l price vol) (s:Int) (sd:Int):(ord s l sd price vol).Perm (l.filter (el sd price)):=order_perm _ hf.1.oks sd price vol hf.2.1.1 hf.2.1.2
theorem ord_mem {l:List Lot} {price vol:Int} (hf:Fine l price vol) (s:Int) {sd:Int} {x:Lot}:x∈ord s l sd price vol↔x∈l∧el sd price x = true:=by
 rw [(ord_perm hf s sd).mem_iff,List.mem_filter]
theorem ord_pos {l:List Lot} {price vol:Int} (hf:Fine l price vol) (s:Int) (sd:Int):Pos (ord s l sd price vol):=fun x hx=>pos_of_oks hf.1.oks x ((ord_mem hf s).1 hx).1
theorem ord_once {l:List Lot} {price vol:Int} (hf:Fine l price vol) (s:Int) (sd:Int):Once (ord s l sd price vol):=(once_filter (once_of_well hf.1) _).perm (ord_perm hf s sd).symm
theorem fills_eq {l:List Lot} {price vol:Int} (hf:Fine l price vol) (s:Int):fills s l price vol = fill (ord s l 0 price vol) vol++fill (ord s l 1 price vol) vol:=by
 unfold fills
 rw [side_is s hf.1.oks 0 price vol hf.2.2.1,side_is (nextSeed s) hf.1.oks 1 price vol hf.2.2.1]
 rfl
theorem got_side {l:List Lot} {price vol:Int} (hf:Fine l price vol) (s:Int) {x:Lot} (hx:x∈l):got x.id (fills s l price vol) = got x.id (fill (ord s l x.sd price vol) vol):=by
 have hz:∀ sd,x.sd≠sd→got x.id (fill (ord s l sd price vol) vol) = 0:=fun sd hne=>got_out _ _ _ (ord_pos hf s sd) hf.2.2.1 fun y hy e=>by
  obtain ⟨hy1,hy2⟩:=(ord_mem hf s).1 hy
  have:=once_eq (once_of_well hf.1) hy1 hx e
  subst this
  simp only [el,Bool.and_eq_true,beq_iff_eq] at hy2
  exact hne hy2.1
 have hsd:=(ok_bounds (hf.1.oks x hx)).2.2.1
 rw [fills_eq hf s,got_append]
 by_cases h:x.sd = 0
 ·rw [hz 1 (by omega),h];omega
 ·have:x.sd = 1:=by omega
  rw [hz 0 h,this];omega
theorem got_worse {l:List Lot} {price vol:Int} (hf:Fine l price vol) (s:Int) {x:Lot} (hx:x∈l) (h:el x.sd price x = false):got x.id (fills s l price vol) = 0:=by
 rw [got_side hf s hx]
 refine got_out _ _ _ (ord_pos hf s _) hf.2.2.1 fun y hy e=>?_
 obtain ⟨hy1,hy2⟩:=(ord_mem hf s).1 hy
 have:=once_eq (once_of_well hf.1) hy1 hx e
 subst this
 rw [h] at hy2;cases hy2
theorem got_in {l:List Lot} {price vol:Int} (hf:Fine l price vol) (s:Int) {x:Lot} (hx:x∈l):0≤got x.id (fills s l price vol)∧got x.id (fills s l price vol)≤x.q:=by
 have hq:=pos_of_oks hf.1.oks x hx
 cases h:el x.sd price x with
 | false=>rw [got_worse hf s hx h];omega
 | true =>
  rw [got_side hf s hx]
  exact got_within (ord_pos hf s _) hf.2.2.1 (ord_once hf s _) ((ord_mem hf s).2 ⟨hx,h⟩)
def sumG (F:List (Int × Int)) (sd:Int):List Lot→Int
 | []=>0
 | x :: l=>(if x.sd = sd then got x.id F else 0) + sumG F sd l
theorem sumG_gots (F:List (Int × Int)) (sd:Int):∀ l:List Lot,sumG F sd l = gots F (l.filter fun x=>x.sd == sd)
 | []=>rfl
 | x :: l=>by
  have ih:=sumG_gots F sd l
  rw [List.filter_cons]
  by_cases h:x.sd = sd
  ·simp [sumG,gots,h,ih]
  ·simp [sumG,h,ih]
theorem gots_congr {F G:List (Int × Int)}:∀ l:List Lot,(∀ x∈l,got x.id F = got x.id G)→gots F l = gots G l
 | [],_=>rfl
 | x :: l,h=>by
  simp only [gots]
  rw [h x List.mem_cons_self,gots_congr l (fun y hy=>h y (List.mem_cons_of_mem _ hy))]
theorem sum_side {l:List Lot} {price vol:Int} (hf:Fine l price vol) (s sd:Int) (hsd:sd = 0∨sd = 1):sumG (fills s l price vol) sd l = vol:=by
 rw [sumG_gots]
 rw [gots_congr (G:=fill (ord s l sd price vol) vol) _ fun x hx=>?_]
 ·rw [gots_sum _ (once_filter (once_of_well hf.1) _) _ fun f hf'=>?_]
  ·rw [fill_sum _ _ (ord_pos hf s sd) hf.2.2.1,tot_perm (ord_perm hf s sd)]
   have h1:=tot_el l price
   have h2:=hf.2.2.2
   unfold volume at h2
   rcases hsd with rfl | rfl
   ·rw [h1.1];omega
   ·rw [h1.2];omega
  ·obtain ⟨_,x,hx,e⟩:=fill_mem _ _ (ord_pos hf s sd) hf.2.2.1 f hf'
   obtain ⟨hx1,hx2⟩:=(ord_mem hf s).1 hx
   simp only [el,Bool.and_eq_true] at hx2
   exact ⟨x,List.mem_filter.2 ⟨hx1,hx2.1⟩,e⟩
 ·obtain ⟨hx1,hx2⟩:=List.mem_filter.1 hx
  have:x.sd = sd:=by simpa using hx2
  rw [got_side hf s hx1,this]
end Ra
namespace Fs
open Cv Bk Ra Pu Fu
theorem fills_mem {l:List Lot} {price vol:Int} (hf:Fine l price vol) (s:Int):∀ f∈fills s l price vol,1≤f.2∧∃ x∈l,x.id = f.1:=by
 intro f hm
 rw [fills_eq hf s] at hm
 rcases List.mem_append.1 hm with h | h
 ·obtain ⟨h1,x,hx,he⟩:=fill_mem _ _ (ord_pos hf s 0) hf.2.2.1 f h
  exact ⟨h1,x,((ord_mem hf s).1 hx).1,he⟩
 ·obtain ⟨h1,x,hx,he⟩:=fill_mem _ _ (ord_pos hf s 1) hf.2.2.1 f h
  exact ⟨h1,x,((ord_mem hf s).1 hx).1,he⟩
theorem sumG_by (F:List (Int × Int)) (sd:Int):∀ l:List Lot,sumG F sd l = sumBy (fun x=>if x.sd = sd then got x.id F else 0) l
 | []=>rfl
 | x :: l=>by rw [sumG,sumBy,sumG_by F sd l]
theorem fil_of {l:List Lot} {price vol:Int} (hf:Fine l price vol) (s:Int):Fil l price (fills s l price vol):=by
 refine ⟨fills_mem hf s,fun x hx=>got_in hf s hx,fun x hx hg=>?_,?_⟩
 ·have he:el x.sd price x≠false:=fun e=>by rw [got_worse hf s hx e] at hg;omega
  have he':better x.sd price x.pr = false:=by
   unfold el at he
   simp only [beq_self_eq_true,Bool.true_and,ne_eq,Bool.not_eq_false,Bool.not_eq_true'] at he
   exact he
  unfold better at he'
  constructor
  ·intro h0;rw [if_pos h0] at he';simpa using he'
  ·intro h1;rw [if_neg (by omega)] at he';simpa using he'
 ·rw [← sumG_by,← sumG_by,sum_side hf s 0 (.inl rfl),sum_side hf s 1 (.inr rfl)]
theorem won_fine {l:List Lot} {ref p v:Int} (hl:Well l) (hw:Won l ref 1000 p v) (hv:0 < v):Fine l p v:=by
 rcases hw with ⟨_,h2,_⟩ | ⟨_,h2,h3,h4,_⟩
 ·omega
 ·exact ⟨hl,⟨h2,h3⟩,by omega,by omega⟩
theorem rest_nil {l:List Lot} (h:Oks l):restL [] l = l:=rem_zero h
theorem sett_nil (f:Nat→Int) (i:Nat) (price:Int) (l:List Lot):sett f i price l [] = f:=by
 funext j
 unfold sett
 have:sumBy (fun x=>eff i price j x (got x.id [])) l = 0:=sumBy_zero fun x _=>eff_zero i price j x
 omega
end Fs
namespace Fs
open Cv Bk Ra Pu Fu
theorem TI.final {i:Nat} (hi:i < 3) {price:Int} (hp:1≤price∧price≤1000) {G:Nat→Int}:∀ (m:Nat) (f:Nat→Int) (bs ss:List Lot),bs.length + ss.length≤m→TI i price G f bs ss→cashes G 6 = cashes f 6∧∀ k,k < 3→stocks G k 6 = stocks f k 6
 | m,f,[],ss,_,h=>by
  have e:f = G:=funext (h.done (.inl rfl))
  rw [e];exact ⟨rfl,fun _ _=>rfl⟩
 | m,f,x :: bs,[],_,h=>by
  have e:f = G:=funext (h.done (.inr rfl))
  rw [e];exact ⟨rfl,fun _ _=>rfl⟩
 | 0,f,x :: bs,y :: ss,hm,h=>by simp at hm
 | m + 1,f,x :: bs,y :: ss,hm,h=>by
  obtain ⟨_,h2⟩:=h.step hi hp rfl
  have hs:=trade_sums f i x y price (min x.q y.q)
  have hl:(wo (x :: bs) (min x.q y.q)).length + (wo (y :: ss) (min x.q y.q)).length≤m:=by
   rw [wo_cons,wo_cons]
   simp only [List.length_cons] at hm
   split <;> split <;> (try simp only [List.length_cons]) <;> omega
  obtain ⟨h3,h4⟩:=TI.final hi hp m _ _ _ hl h2
  exact ⟨by rw [h3,hs.1],fun k hk=>by rw [h4 k hk,hs.2 k hk]⟩
theorem sett_sums {L:Nat→List Lot} {f:Nat→Int} (h:FOk L f) {i:Nat} (hi:i < 3) {price:Int} (hp:1≤price∧price≤1000) {F:List (Int × Int)} (hF:Fil (L i) price F):cashes (sett f i price (L i) F) 6 = cashes f 6∧∀ k,k < 3→stocks (sett f i price (L i) F) k 6 = stocks f k 6 :=
 TI.final hi hp _ _ _ _ (Nat.le_refl _) (h.start hi hF)
theorem rest_get {l:List Lot} (ho:Once l) (F:List (Int × Int)) {x:Lot} (hx:x∈l):(got x.id F < x.q→has (restL F l) x.id = true∧nth (restL F l) (pos (restL F l) x.id) = less x (got x.id F))∧(¬ got x.id F < x.q→has (restL F l) x.id = false):=by
 refine ⟨fun h=>⟨rem_has.2 ⟨x,hx,rfl,h⟩,rem_nth (c:=fun id=>got id F) ho hx h⟩,fun h=>?_⟩
 cases hh:has (restL F l) x.id with
 | false=>rfl
 | true =>
  obtain ⟨y,hy,he,hlt⟩:=rem_has.1 hh
  have:y = x:=once_eq ho hy hx he
  subst this
  exact absurd hlt h
end Fs
end Go.Proofs.YtidahfhingdlmaaGreatDoor
