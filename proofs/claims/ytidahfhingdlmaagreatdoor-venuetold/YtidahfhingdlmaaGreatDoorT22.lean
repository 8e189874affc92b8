/- Function filled of package batch: the lots of one side's fills. -/
import Derived.Test.YtidahfhingdlmaaGreatDoorT17
import Derived.Test.YtidahfhingdlmaaGreatDoorT21
import Derived.Test.YtidahfhingdlmaaGreatDoorT06
import Derived.Test.YtidahfhingdlmaaGreatDoorT08
import Derived.Test.YtidahfhingdlmaaGreatDoorT16
namespace Go.Proofs.YtidahfhingdlmaaGreatDoor
open Go.RowKit
set_option maxRecDepth 100000
theorem filledOf_len (l:List Cv.Lot) (sd:Int) (f:Int × Int):(Fs.filledOf l sd f).length≤1:=by
 unfold Fs.filledOf;split <;> simp
theorem filled_len (l:List Cv.Lot) (sd:Int):∀ F,(Fs.filled l sd F).length≤F.length
 | []=>Nat.le_refl _
 | f :: F=>by
  have:=filled_len l sd F
  have:=filledOf_len l sd f
  rw [Fs.filled,List.length_append,List.length_cons];omega
theorem filled_snoc (l:List Cv.Lot) (sd:Int) (F:List (Int × Int)) (f:Int × Int):Fs.filled l sd (F++[f]) = Fs.filled l sd F++Fs.filledOf l sd f:=by
 rw [Fs.filled_append,Fs.filled,Fs.filled,List.append_nil]
set_option maxHeartbeats 1000000 in
theorem filled_some (b base bF cap n:Nat) (v:Value) (sd:Int) (l:List Cv.Lot) (F:List (Int × Int)) (w:World) (hb:Hid (Book w base b v l)) (hl:Hid (l.length≤60)) (hn:Hid (F.length = n)) (hn':n≤400)
  (hF:Hid (∀ i,i < n→w.cell? ⟨bF,i * 2,none⟩ = some (.int .i64 (fnth F i).1)∧w.cell? ⟨bF,i * 2 + 1,none⟩ = some (.int .i64 (fnth F i).2))) :
  Calls Tryz.prog 202 #[.pointer (some ⟨b,0,none⟩),.int .i64 sd,.slice (some ⟨bF,0,none⟩) n cap] w fun e w'=>∃ v',e = .returned v'∧w'.ownsRow w.heap.size 137 5 v' (Fs.filled l sd F).length (flat (Fs.filled l sd F))∧Below w.heap.size w w':=by
 obtain ⟨i0,z0,hi,hz0,hz1,hz2,hz3⟩:=info110
 have Hi:=hide hi;have Hz0:=hide hz0;have Hz1:=hide hz1;have Hz2:=hide hz2;have Hz3:=hide hz3
 clear hi hz0 hz1 hz2 hz3
 go_enter Tryz.func202,Tryz.ntmps202
 go_wp2
 go_loopw [7,14] (fun u i wr=>∃ (k:Nat) (zs:List Cv.Lot),k≤n∧i = .int .i64 k∧zs = Fs.filled l sd (F.take k)∧zs.length≤k∧wr.ownsRow w.heap.size 137 5 u zs.length (flat zs)∧Below w.heap.size w wr) (fun _ i _=>n - (intOf i).toNat)
 case atStart=>exact ⟨0,[],Nat.zero_le _,rfl,rfl,Nat.le_refl _,⟨rfl,.inl ⟨rfl,rfl⟩⟩,Below.refl _ _⟩
 case round =>
  obtain ⟨k,zs,hk,rfl,hzs,hzl,hrow,hbl⟩:=hrel
  have HZS:=hide hzs;have HROW:=hide hrow;have HBL:=hide hbl
  clear hzs hrow hbl
  by_cases hlt:k < n
  ·have hki:(k:Int) < n:=by omega
   obtain ⟨c0,c1⟩:=hF.out k hlt
   have c0:=cell_later HBL.out c0
   have c1:=cell_later HBL.out c1
   have HSN:Hid (Fs.filled l sd (F.take (k + 1)) = zs++Fs.filledOf l sd (fnth F k)):=by
    show _ = _
    rw [take_fnth (by rw [hn.out];exact hlt),filled_snoc,← HZS.out]
   obtain ⟨⟨id,q⟩,hfe⟩:∃ f,fnth F k = f:=⟨_,rfl⟩
   rw [hfe] at c0 c1 HSN
   clear hfe
   simp only [] at c0 c1
   have hb1:Below wr.heap.size wr (wr.alloc (.cells #[.int .i64 id,.int .i64 q] 227)):=(Below.refl _ _).alloc (Nat.le_refl _) _
   have HGET:=hide (get_any b base v id l (wr.alloc (.cells #[.int .i64 id,.int .i64 q] 227)) ((hb.out.later (HBL.out)).later hb1) hl.out)
   have hd:(wr.alloc (.cells #[.int .i64 id,.int .i64 q] 227)).heap[wr.heap.size]? = some (.cells #[.int .i64 id,.int .i64 q] 227 (0,0)):=heap_alloc_new _ _
   have HD:=hide hd;have HB1:=hide (HBL.out.trans (hb1.mono HBL.out.size))
   have HR1:=hide (HROW.out.alloc (.cells #[.int .i64 id,.int .i64 q] 227))
   clear hd hb1
   obtain ⟨D,hDe⟩:∃ D,wr.heap.size = D:=⟨_,rfl⟩
   have HDe:=hide hDe
   clear hDe
   cases hh:Cv.has l id with
   | false =>
    have HFO:Hid (Fs.filledOf l sd (id,q) = []):=by show _ = _;unfold Fs.filledOf;rw [if_neg (by simp [hh])]
    rw [hh,show Bk.getX l id = Cv.z by unfold Bk.getX;rw [hh];rfl] at HGET
    unfold lotV Cv.z at HGET
    go_wp2_with fail
    refine HGET.out.mono ?_
    rintro e w2 ⟨rfl,hb2⟩
    have HB2:=hide (HB1.out.trans (hb2.mono HB1.out.size))
    have HR2:=hide (row_later HR1.out hb2)
    clear hb2 HGET HR1 HB1 HD
    simp only []
    have HB3:=hide (HB2.out.alloc HB2.out.size (.cells #[.int .i64 0,.int .i64 0,.int .i64 0,.int .i64 0,.int .i64 0] 137))
    have HR3:=hide (HR2.out.alloc (.cells #[.int .i64 0,.int .i64 0,.int .i64 0,.int .i64 0,.int .i64 0] 137))
    go_wp2
    refine ⟨⟨k + 1,zs,by omega,by go_num,by rw [HSN.out,HFO.out,List.append_nil],by omega,HR3.out,HB3.out⟩,by simp [intOf];omega⟩
   | true =>
    rw [hh,show Bk.getX l id = Cv.nth l (Bk.pos l id) by unfold Bk.getX;rw [if_pos hh]] at HGET
    have HFO:Hid (Fs.filledOf l sd (id,q) = if (Cv.nth l (Bk.pos l id)).sd = sd then [Pu.only (Cv.nth l (Bk.pos l id)) q] else []):=by
     show _ = _
     unfold Fs.filledOf
     by_cases hs:(Cv.nth l (Bk.pos l id)).sd = sd
     ·rw [if_pos ⟨hh,hs⟩,if_pos hs]
     ·rw [if_neg (fun h=>hs h.2),if_neg hs]
    generalize Cv.nth l (Bk.pos l id) = X at *
    obtain ⟨x0,x1,x2,x3,x4⟩:=X
    unfold lotV at HGET
    simp only [Pu.only] at HFO HGET
    by_cases hs:x2 = sd
    ·subst hs
     rw [if_pos rfl] at HFO
     go_wp2_with fail
     refine HGET.out.mono ?_
     rintro e w2 ⟨rfl,hb2⟩
     have HB2:=hide (HB1.out.trans (hb2.mono HB1.out.size))
     have HR2:=hide (row_later HR1.out hb2)
     have hd2:w2.heap[D]? = some (.cells #[.int .i64 id,.int .i64 q] 227 (0,0)):=by rw [← HDe.out,hb2.block _ (lt_of_block HD.out)];exact HD.out
     rw [HDe.out]
     have d1:w2.cell? ⟨D,1,none⟩ = some (.int .i64 q):=by rw [cell_of_row w2 D 1 _ _ _ hd2];rfl
     have hDl:=lt_of_block hd2
     clear hb2 HGET HR1 HB1 HD hd2
     have HB3:=hide (HB2.out.alloc HB2.out.size (.cells #[.int .i64 x0,.int .i64 x1,.int .i64 x2,.int .i64 x3,.int .i64 q] 137))
     have HR3:=hide (HR2.out.alloc (.cells #[.int .i64 x0,.int .i64 x1,.int .i64 x2,.int .i64 x3,.int .i64 q] 137))
     simp only []
     go_wp2_with (at_builtin;refine wpList_append_own_at _ rfl _ _ 60 rfl w.heap.size 137 i0 z0 5 40 Tryz.underlying60 Hi.out Hz0.out Hz1.out Hz2.out Hz3.out (by decide) _ _ _ rfl (HR3.out.alloc _) ⟨w2.heap.size + 1,0,none⟩ 1 1 (lotCells ⟨x0,x1,x2,x3,q⟩) rfl rfl ?c1 ?c2 ?c3 ?c4 ?c5 ?_)
     case c1=>exact fun j u hj=>cell_new5 _ ⟨x0,x1,x2,x3,q⟩ 137 _ (by simp) j u hj
     case c2 => exact fun u hu => by
                     simp only [lotCells,List.mem_cons,List.not_mem_nil,or_false] at hu
                     rcases hu with rfl | rfl | rfl | rfl | rfl <;> rfl
     case c3=>unfold maxLen;omega
     case c4=>omega
     case c5=>have:=HB3.out.size;simp at this ⊢;omega
     intro ve we hown' hgrow _ hloc
     have HRe:Hid (we.ownsRow w.heap.size 137 5 ve (zs++[Cv.Lot.mk x0 x1 x2 x3 q]).length (flat (zs++[Cv.Lot.mk x0 x1 x2 x3 q]))):=by
      show World.ownsRow _ _ _ _ _ _ _
      rw [show flat (zs++[Cv.Lot.mk x0 x1 x2 x3 q]) = flat zs++lotCells ⟨x0,x1,x2,x3,q⟩ by simp [flat],List.length_append]
      exact hown'
     have hlt2:=(HR3.out.alloc (.cells #[.int .i64 x0,.int .i64 x1,.int .i64 x2,.int .i64 x3,.int .i64 q] 137)).lt
     have HBe:Hid (Below w.heap.size w we):=(HB3.out.alloc HB3.out.size _).grown hgrow (by have:=HB3.out.size;simp at this ⊢;omega) (fun j hj=>(hlt2 j hj).1)
     clear hown' hgrow hloc hlt2 HR3 HB3 HR2 HB2 d1
     go_wp2
     refine ⟨⟨k + 1,zs++[Cv.Lot.mk x0 x1 x2 x3 q],by omega,by go_num,by rw [HSN.out,HFO.out],by simp;omega,HRe.out,HBe.out⟩,by simp [intOf];omega⟩
    ·have hs':(x2 == sd) = false:=by simpa using hs
     rw [if_neg hs] at HFO
     go_wp2_with fail
     refine HGET.out.mono ?_
     rintro e w2 ⟨rfl,hb2⟩
     have HB2:=hide (HB1.out.trans (hb2.mono HB1.out.size))
     have HR2:=hide (row_later HR1.out hb2)
     clear hb2 HGET HR1 HB1 HD
     have HB3:=hide (HB2.out.alloc HB2.out.size (.cells #[.int .i64 x0,.int .i64 x1,.int .i64 x2,.int .i64 x3,.int .i64 x4] 137))
     have HR3:=hide (HR2.out.alloc (.cells #[.int .i64 x0,.int .i64 x1,.int .i64 x2,.int .i64 x3,.int .i64 x4] 137))
     simp only []
     go_wp2
     refine ⟨⟨k + 1,zs,by omega,by go_num,by rw [HSN.out,HFO.out,List.append_nil],by omega,HR3.out,HB3.out⟩,by simp [intOf];omega⟩
  ·have hki:¬ (k:Int) < n:=by omega
   have hzz:zs = Fs.filled l sd F:=by rw [HZS.out,List.take_of_length_le (by rw [hn.out];omega)]
   subst hzz
   go_wp2
   go_ret
   exact ⟨_,rfl,HROW.out,HBL.out⟩
theorem filled_any (b base:Nat) (v vF:Value) (sd:Int) (l:List Cv.Lot) (F:List (Int × Int)) (w:World) (hb:Hid (Book w base b v l)) (hl:Hid (l.length≤60)) (hn:F.length≤400) (hF:Hid (Fls w vF F)) :
  Calls Tryz.prog 202 #[.pointer (some ⟨b,0,none⟩),.int .i64 sd,vF] w fun e w'=>∃ v',e = .returned v'∧w'.ownsRow w.heap.size 137 5 v' (Fs.filled l sd F).length (flat (Fs.filled l sd F))∧Below w.heap.size w w':=by
 rcases hF.out with ⟨rfl,a,cap,rfl⟩ | ⟨bF,cap,rfl,hc⟩
 ·go_enter Tryz.func202,Tryz.ntmps202
  go_wp2
  refine wp_loop_rounds 1 ?_
  rw [rounds_succ]
  go_wp2
  go_ret
  exact ⟨_,rfl,⟨rfl,.inl ⟨rfl,rfl⟩⟩,Below.refl _ _⟩
 ·exact filled_some b base bF cap F.length v sd l F w hb hl rfl hn hc
def FRow (w:World) (v:Value) (F:List (Int × Int)):Prop :=
 (F = []∧∃ a cap,v = .slice a 0 cap)∨∃ g cap cur,v = .slice (some ⟨g,0,none⟩) F.length cap∧(∀ i,i < F.length→w.cell? ⟨g,i * 2,none⟩ = some (.int .i64 (fnth F i).1)∧w.cell? ⟨g,i * 2 + 1,none⟩ = some (.int .i64 (fnth F i).2))∧w.heap[g]? = some (.cells cur 227 (0,0))
section
variable {w w':World} {v:Value} {F:List (Int × Int)}
theorem FRow.fls (h:FRow w v F):Fls w v F:=by
 rcases h with h | ⟨g,cap,cur,h1,h2,_⟩
 ·exact .inl h
 ·exact .inr ⟨g,cap,h1,h2⟩
theorem FRow.keep (h:FRow w v F) (hk:∀ (g:Nat) (cur:Array Value),w.heap[g]? = some (Obj.cells cur 227 (0,0))→w'.heap[g]? = w.heap[g]?):FRow w' v F:=by
 rcases h with h | ⟨g,cap,cur,h1,h2,h3⟩
 ·exact .inl h
 ·refine .inr ⟨g,cap,cur,h1,fun i hi=>?_,by rw [hk g cur h3];exact h3⟩
  rw [World.cell?_of_block (a:=⟨g,i * 2,none⟩) (hk g cur h3),World.cell?_of_block (a:=⟨g,i * 2 + 1,none⟩) (hk g cur h3)]
  exact h2 i hi
theorem FRow.later (h:FRow w v F) (hb:Below w.heap.size w w'):FRow w' v F:=h.keep fun g _ hg=>hb.block g (lt_of_block hg)
theorem FRow.save {q:Nat} (h:FRow w v F) (hs:Save w w' q) {a:Array Value} {T:TypeId} (hq:w.heap[q]? = some (.cells a T (0,0))) (hT:T≠227):FRow w' v F :=
 h.keep fun g _ hg=>hs.block g (lt_of_block hg) (Ne.symm (blkT hq hg hT))
theorem FRow.book {base p:Nat} {u u':Value} {l:List Cv.Lot} (h:FRow w v F) (hb:Book w base p u l) (hs:Step w w' p u u'):FRow w' v F :=
 h.keep fun g _ hg=>hs.only.block g (lt_of_block hg) (fun e=>by
  have:g = p:=by simpa using e
  exact blkT hg hb.cell (by decide) this) (fun e=>rowT hb.row hg (by decide) e.symm)
theorem FRow.of_row {base:Nat} (h:w.ownsRow base 227 2 v F.length (fcells F)):FRow w v F:=by
 rcases fls_of h with h1 | ⟨g,cap,h1,h2⟩
 ·exact .inl h1
 ·rcases h.2 with ⟨e,_⟩ | ⟨g',cap',cur,e,hg,hgg,_⟩
  ·rw [e] at h1;cases h1
  ·rw [e] at h1
   simp only [Value.slice.injEq,Option.some.injEq,Addr.mk.injEq] at h1
   obtain ⟨⟨rfl,_,_⟩,_,rfl⟩:=h1
   exact .inr ⟨g',cap',cur,e,h2,hgg⟩
theorem FRow.val (h:FRow w v F):∃ a cap,v = .slice a F.length cap:=by
 rcases h with ⟨rfl,a,cap,rfl⟩ | ⟨g,cap,cur,rfl,_⟩
 ·exact ⟨a,cap,rfl⟩
 ·exact ⟨_,_,rfl⟩
end
theorem OwnL.nil {w:World} {g g':Nat} {v:Value} (h:OwnL w g v []):OwnL w g' v []:=by
 rcases h with h | ⟨o,cap,cur,h1,h2,h3,h4⟩
 ·exact .inl h
 ·exact .inl ⟨rfl,_,_,h1⟩
theorem own_pair {w1 w2:World} {B base1 base2:Nat} {v1 v2:Value} {l1 l2:List Cv.Lot} (h1:w1.ownsRow base1 137 5 v1 l1.length (flat l1)) (h12:Below w1.heap.size w1 w2) (h2:w2.ownsRow base2 137 5 v2 l2.length (flat l2)) (hb1:B≤base1) (hb2:w1.heap.size≤base2) (hB:B≤w1.heap.size) :
  ∃ g1 g2,OwnL w2 g1 v1 l1∧OwnL w2 g2 v2 l2∧g1≠g2∧B≤g1∧B≤g2:=by
 obtain ⟨g1,a1,c1⟩:=OwnL.of_row (row_later h1 h12)
 obtain ⟨g2,a2,c2⟩:=OwnL.of_row h2
 have hlt1:=h1.lt
 rcases c1 with rfl | ⟨c1,e1⟩
 ·rcases c2 with rfl | ⟨c2,e2⟩
  ·exact ⟨B,B + 1,a1.nil,a2.nil,by omega,by omega,by omega⟩
  ·exact ⟨g2 + 1,g2,a1.nil,a2,by omega,by omega,by omega⟩
 ·have:=hlt1 g1 e1
  rcases c2 with rfl | ⟨c2,e2⟩
  ·exact ⟨g1,g1 + 1,a1,a2.nil,by omega,by omega,by omega⟩
  ·exact ⟨g1,g2,a1,a2,by omega,by omega,by omega⟩
theorem rest_take {l:List Cv.Lot} {price:Int} {FF:List (Int × Int)} (hok:Bk.Good l) (hF:Fs.Fil l price FF) {k:Nat} (hk:k < FF.length) :
  Bk.takC (Fs.restL (FF.take k) l) (fnth FF k).1 (fnth FF k).2 = 0∧Bk.takL (Fs.restL (FF.take k) l) (fnth FF k).1 (fnth FF k).2 = Fs.restL (FF.take (k + 1)) l∧Bk.Good (Fs.restL (FF.take k) l):=by
 have he:fnth FF k = FF[k]:=by unfold fnth;rw [List.getD_eq_getElem?_getD,List.getElem?_eq_getElem hk];rfl
 have hpos:∀ f∈FF,1≤f.2:=fun f hf=>(hF.pos f hf).1
 obtain ⟨hq,x,hx,hid⟩:=hF.pos _ (List.getElem_mem hk)
 have h1:=congrFun (Fs.got_take FF hk) (FF[k]).1
 simp only [Fu.more,if_true] at h1
 have h2:=Fs.got_take_le (FF[k]).1 FF hpos (k + 1)
 have h3:=(hF.le x hx).2
 rw [hid] at h3
 have h4:Ra.got x.id (FF.take k) + (FF[k]).2≤x.q:=by rw [hid];omega
 have hc:Ra.got x.id (FF.take k) < x.q:=by omega
 have hg:Bk.Good (Fs.restL (FF.take k) l):=Fs.good_rem hok fun y _=>Fs.got_nonneg _ _ fun f hf=>hpos f (List.mem_of_mem_take hf)
 rw [he,← hid]
 refine ⟨?_,?_,hg⟩
 ·have hh:Cv.has (Fs.restL (FF.take k) l) x.id = true:=Fu.rem_has.2 ⟨x,hx,rfl,hc⟩
  have hn:Cv.nth (Fs.restL (FF.take k) l) (Bk.pos (Fs.restL (FF.take k) l) x.id) = Bk.less x (Ra.got x.id (FF.take k)):=Fu.rem_nth (c:=fun id=>Ra.got id (FF.take k)) hok.once hx hc
  unfold Bk.takC
  rw [if_pos hh,if_pos]
  rw [hn]
  have e5:(FF[k]).2≤(Bk.less x (Ra.got x.id (FF.take k))).q:=by show (FF[k]).2≤x.q - Ra.got x.id (FF.take k);omega
  unfold Wi.withinB
  rw [Bool.and_eq_true]
  exact ⟨decide_eq_true hq,decide_eq_true e5⟩
 ·have:=Fu.takL_rem (c:=fun id=>Ra.got id (FF.take k)) hok.once hx hq h4
  unfold Fs.restL
  rw [Fs.got_take FF hk,this,hid]
section
variable {w W:World} {F P:Nat} {I b:Nat→Nat} {v:Nat→Value} {L:Nat→List Cv.Lot} {pf n:Nat→Int} {wd h:Int} {ev:Nat→Value}
theorem quiet_load55 {wr:World} {B:Nat} {f:Nat→Int} {o:Oper} {a:Act} {K:Act→Prop} (hp:Purse wr 131 B f) (x:Operand) (ho:o.op = .load 131 x) (hx:a.eval x = .pointer (some ⟨B,0,none⟩)) (hk:K (a.put o.dst (.agg (p_row f)))):o.quiet Tryz.prog a (fun w'=>∃ m,w' = wr.drewN m) K :=
 ⟨_,fun w ⟨m,hm⟩=>by
  subst hm
  unfold Oper.quietAt execOp
  simp only [ho,hx,Instr.loadAt,Instr.sureAddr,Sem.run_bind,Sem.run_pure,Result.andThen_ok,load55 (hp.drew m)]
  exact ⟨rfl,rfl⟩,hk⟩
theorem errOf_nil (T:TypeId) (v1 v5 v6 v7:Value):errOf T v1 v5 v6 v7 0 = .nilIface:=rfl
set_option maxHeartbeats 1000000 in
theorem settle_any (i:Nat) (hi:i < 3) (price:Int) (vF:Value) (FF:List (Int × Int)) (hF:Hid (PFl w W F P I b v L pf n wd h)) (he:Hid (AEr w ev)) (hok:Hid (Fs.FOk L pf)) (hFil:Hid (Fs.Fil (L i) price FF)) (hp1:1≤price) (hp2:price≤1000) (hrow:Hid (FRow W vF FF)) (hlen:FF.length≤200) (hnil:FF≠[]) :
  Calls Tryz.prog 165 #[.pointer (some ⟨F,0,none⟩),.int .i64 i,.int .i64 price,vF] W fun e W'=>e = .returned .nilIface∧∃ v',PFl w W' F P I b v' (upd L i (Fs.restL FF (L i))) (Fs.sett pf i price (L i) FF) n wd h∧FStep W W' P I b v v'∧FRow W' vF FF∧Fs.FOk (upd L i (Fs.restL FF (L i))) (Fs.sett pf i price (L i) FF):=by
 have ci:=hF.out.cellI hi
 have cb:=hF.out.cellB hi
 have cp:=hF.out.cellP
 have h0:(0:Int)≤(i:Int):=by omega
 have h3:(i:Int) < 3:=by omega
 have HCP:=hide (p_copy_any P pf W hF.out.pu)
 obtain ⟨gF,capF,hvF⟩:∃ gF capF,vF = .slice (some ⟨gF,0,none⟩) FF.length capF:=by
  rcases hrow.out with ⟨h,_⟩ | ⟨g,cap,cur,h1,_⟩
  ·exact absurd h hnil
  ·exact ⟨g,cap,h1⟩
 subst hvF
 obtain ⟨m,hm⟩:∃ m,FF.length = m:=⟨_,rfl⟩
 obtain ⟨G,hG⟩:∃ G,Fs.sett pf i price (L i) FF = G:=⟨_,rfl⟩
 rw [hG]
 have HM:=hide hm;have HG:=hide hG
 rw [hm] at hlen hrow
 rw [hm]
 clear hm hG
 go_enter Tryz.func165,Tryz.ntmps165
 go_wp2_with fail
 refine HCP.out.mono ?_
 rintro e w1 ⟨rfl,hp1',hb1⟩
 have HP1:=hide hp1';have HB1:=hide hb1
 clear hp1' hb1 HCP ci cb cp
 obtain ⟨NX,hNX⟩:∃ NX,W.heap.size = NX:=⟨_,rfl⟩
 rw [hNX] at HP1
 rw [hNX]
 have HNX:=hide hNX
 clear hNX
 have HR1:=hide (hrow.out.later HB1.out)
 have HBk1:=hide ((hF.out.bk i hi).later HB1.out)
 have HFA:=hide (filled_any (b i) w.heap.size (v i) _ 0 (L i) FF w1 HBk1.out (hok.out.bk i hi).len (by rw [HM.out];omega) HR1.out.fls)
 simp only []
 go_wp2_with fail
 refine HFA.out.mono ?_
 rintro e w2 ⟨vb,rfl,hob,hb2⟩
 have HOB:=hide hob;have HB12:=hide hb2
 clear hob hb2 HFA
 have HFB:=hide (filled_any (b i) w.heap.size (v i) _ 1 (L i) FF w2 (HBk1.out.later HB12.out) (hok.out.bk i hi).len (by rw [HM.out];omega) (HR1.out.later HB12.out).fls)
 simp only []
 go_wp2_with fail
 refine HFB.out.mono ?_
 rintro e w3 ⟨vs,rfl,hos,hb3⟩
 have HOS:=hide hos;have HB23:=hide hb3
 clear hos hb3 HFB
 have hb13:Below w1.heap.size w1 w3:=HB12.out.trans (HB23.out.mono HB12.out.size)
 have hbW3:Below W.heap.size W w3:=HB1.out.trans (hb13.mono HB1.out.size)
 obtain ⟨gb,gs,hob,hos,hne,hgb,hgs⟩:=own_pair (B:=W.heap.size) HOB.out HB23.out HOS.out HB1.out.size (Nat.le_refl _) (Nat.le_trans HB1.out.size HB12.out.size)
 have hti:=hok.out.start hi hFil.out
 have hl1:=filled_len (L i) 0 FF
 have hl2:=filled_len (L i) 1 FF
 rw [HM.out] at hl1 hl2
 have HTR:=hide (trades_any NX i W.heap.size gb gs price vb vs _ _ pf _ ev w3 hi hp1 hp2 (fun W' hb=>(hF.out.er he.out).below (hbW3.trans hb)) ⟨hbW3.size,by rw [HNX.out];exact Nat.le_refl _,hgb,hgs⟩ hne hob hos (HP1.out.lat hb13) hti (by show _≤_;omega) (by show _≤_;omega))
 have HBW3:=hide hbW3
 clear hb13 hbW3 hob hos hne hgb hgs hti hl1 hl2 HOB HOS HB12 HB23 HB1 HP1 HR1 HBk1
 simp only []
 go_wp2_with fail
 refine HTR.out.mono ?_
 rintro e w4 ⟨rfl,⟨hp4,hg4,hc4,hs4⟩,hb4⟩
 have hbW4:Below W.heap.size W w4:=HBW3.out.trans hb4
 have hset:=hok.out.settled hi hFil.out hg4 hc4 hs4
 have HSET:=hide hset;have HP4:=hide hp4;have HBW4:=hide hbW4
 clear hp4 hg4 hc4 hs4 hb4 hbW4 hset HTR HBW3
 rw [HG.out] at HSET HP4
 have HF4:=hide (hF.out.later HBW4.out)
 have HS4:=hide (FStep.of_below HBW4.out P I b v)
 have HR4:=hide (hrow.out.later HBW4.out)
 clear HBW4 HG
 have HRT:=hide (fun k (hk:k < FF.length)=>rest_take (hok.out.bk i hi) hFil.out hk)
 have HST:Hid (upd L i (Fs.restL (FF.take 0) (L i)) = L):=by
  show _ = _
  rw [List.take_zero,show Fs.restL [] (L i) = L i from Fu.rem_zero (hok.out.bk i hi).oks,upd_self]
 have HNlo:Hid (w.heap.size≤NX):=by show _≤_;rw [← HNX.out];exact hF.out.bl.size
 simp only []
 go_wp2_with fail
 go_loopw [44] (fun c wr=>∃ (k:Nat) (vv:Nat→Value),k≤m∧c = .int .i64 k∧PFl w wr F P I b vv (upd L i (Fs.restL (FF.take k) (L i))) pf n wd h∧FStep W wr P I b v vv∧FRow wr (.slice (some ⟨gF,0,none⟩) m capF) FF∧Purse wr 131 NX G) (fun c _=>m - (intOf c).toNat)
 case atStart=>exact ⟨0,v,Nat.zero_le _,rfl,by rw [HST.out];exact HF4.out,HS4.out,HR4.out,HP4.out⟩
 case round =>
  obtain ⟨k,vv,hk,rfl,hf,hs,hr,hp⟩:=hrel
  have HFk:=hide hf;have HSk:=hide hs;have HRk:=hide hr;have HPk:=hide hp
  clear hf hs hr hp HF4 HS4 HR4 HP4
  by_cases hlt:k < m
  ·have hki:(k:Int) < m:=by omega
   have hcell:wr.cell? ⟨gF,k * 2,none⟩ = some (.int .i64 (fnth FF k).1)∧wr.cell? ⟨gF,k * 2 + 1,none⟩ = some (.int .i64 (fnth FF k).2):=by
    rcases HRk.out with ⟨h,_⟩ | ⟨g,cap,cur,h1,h2,_⟩
    ·exact absurd h hnil
    ·simp only [Value.slice.injEq,Option.some.injEq,Addr.mk.injEq] at h1
     obtain ⟨⟨rfl,_,_⟩,_,_⟩:=h1
     exact h2 k (by rw [HM.out];exact hlt)
   obtain ⟨c0,c1⟩:=hcell
   obtain ⟨hC,hL,hG⟩:=HRT.out k (by rw [HM.out];exact hlt)
   obtain ⟨⟨id,q⟩,hfe⟩:∃ f,fnth FF k = f:=⟨_,rfl⟩
   rw [hfe] at c0 c1 hC hL
   simp only [] at c0 c1 hC hL
   have hb1:Below wr.heap.size wr (wr.alloc (.cells #[.int .i64 id,.int .i64 q] 227)):=(Below.refl _ _).alloc (Nat.le_refl _) _
   have HF5:=hide (HFk.out.later hb1)
   have HS5:=hide (HSk.out.below hb1)
   have HR5:=hide (HRk.out.later hb1)
   have HP5:=hide (HPk.out.lat hb1)
   have hbook:=HF5.out.bk i hi
   rw [upd_same] at hbook
   have HBk:=hide hbook
   have htk:=take_any (b i) w.heap.size (vv i) id q (Fs.restL (FF.take k) (L i)) 362 (ev 1) (ev 5) (ev 6) (ev 7) (wr.alloc (.cells #[.int .i64 id,.int .i64 q] 227)) (HF5.out.er he.out).er4 hbook hG
   rw [hC,hL,errOf_nil] at htk
   have HTK:=hide htk
   clear hb1 hbook htk hC hL hG hfe HFk HSk HRk HPk
   go_wp2_with fail
   refine HTK.out.mono ?_
   rintro e w6 ⟨rfl,v6,hb6,hs6⟩
   have hf6:=HF5.out.book hi hb6 hs6
   rw [upd_upd] at hf6
   have HF6:=hide hf6
   have HS6:=hide (HS5.out.trans (FStep.of_book hi hs6 P I))
   have HR6:=hide (HR5.out.book HBk.out hs6)
   have HP6:Hid (Purse w6 131 NX G):=by
    have hpu:=HP5.out
    show _ = _
    rw [hs6.only.block NX (lt_of_block hpu) (fun e=>by
     have:NX = b i:=by simpa using e
     exact blkT hpu HBk.out.cell (by decide) this) (fun e=>rowT HBk.out.row hpu (by decide) e.symm)]
    exact hpu
   clear hb6 hs6 hf6 HTK HF5 HS5 HR5 HP5 HBk
   simp only []
   go_wp2
   refine ⟨⟨k + 1,_,by omega,by go_num,HF6.out,HS6.out,HR6.out,HP6.out⟩,by simp [intOf];omega⟩
  ·have hki:¬ (k:Int) < m:=by omega
   have hkk:FF.take k = FF:=List.take_of_length_le (by rw [HM.out];omega)
   rw [hkk] at HFk
   clear hkk HRT HST
   have cp:=HFk.out.cellP
   have hld:∀ q,(loadVar 131 ⟨NX,0,none⟩).run Tryz.prog (wr.drewN q) = .ok (.agg (p_row G)) (wr.drewN q):=fun q=>load55 (HPk.out.drew q)
   go_wp2_with fail
   refine region_quiet_tail 8 (by kernel_rfl) (by kernel_rfl) ?_
   simp only [List.take_succ_cons,List.take_zero,List.drop_succ_cons,List.drop_zero]
   iterate 6 (first | go_big_quiet_step (fail) | quiet_step (fail))
   refine BigFrame.wpQuiet_want rfl (fun K hK=>quiet_load55 HPk.out (.tmp 63) rfl rfl (hK _ ?_))
   simp only [Act.put]
   repeat (first | go_big_quiet_step (fail) | quiet_step (fail))
   refine wpQuiet_nil ?_
   intro _ hw'
   obtain ⟨nq,hw''⟩:=hw'
   subst hw''
   have HF7:=hide (HFk.out.later (blw_drew nq))
   have HS7:=hide (HSk.out.below (blw_drew nq))
   have HR7:=hide (HRk.out.later (blw_drew nq))
   clear HFk HSk HRk HPk cp hld hK
   generalize wr.drewN nq = w7 at *
   go_wp2_with (refine wpList_store55 (B:=P) G (f:=pf) HF7.out.pu rfl (.tmp 65) (.tmp 64) rfl rfl rfl ?_)
   go_ret
   refine ⟨rfl,vv,HF7.out.purse (HF7.out.pu.stored G) (Save.setRow _ _ _),HS7.out.trans (FStep.of_purse (Save.setRow _ _ _) I b vv),HR7.out.save (Save.setRow _ _ _) HF7.out.pu (by decide),HSET.out⟩
end
theorem good_well {l:List Cv.Lot} (h:Bk.Good l):Cv.Well l:=by
 refine ⟨by have:=h.len;omega,fun i hi=>?_⟩
 unfold Cv.okAt
 rw [Bool.and_eq_true]
 have hnth:Cv.nth l i = l[i]:=by unfold Cv.nth;rw [List.getD_eq_getElem?_getD,List.getElem?_eq_getElem hi];rfl
 refine ⟨by rw [hnth];exact h.oks _ (List.getElem_mem hi),?_⟩
 rw [Bool.not_eq_true']
 cases hh:Cv.has (l.take i) (Cv.nth l i).id with
 | false=>rfl
 | true =>
  exfalso
  unfold Cv.has at hh
  rw [List.any_eq_true] at hh
  obtain ⟨x,hx,he⟩:=hh
  obtain ⟨j,hj,rfl⟩:=List.mem_iff_getElem.1 hx
  have hji:j < i:=by simp only [List.length_take] at hj;omega
  rw [List.getElem_take] at he
  have e1:(l[j]'(by omega)).id = (l[i]).id:=by rw [← hnth];simpa using he
  have hn:(l.map (·.id)).Nodup:=h.once
  have h3:=List.pairwise_iff_getElem.1 hn j i (by simp;omega) (by simpa using hi) hji
  exact h3 (by simpa using e1)
theorem won_exists {l:List Cv.Lot} (hl:Cv.Oks l) (ref:Int):∀ k:Nat,∃ p v,Cv.Won l ref k p v
 | 0=>⟨0,0,Cv.Won.start l ref⟩
 | k + 1=>by
  obtain ⟨p,v,hw⟩:=won_exists hl ref k
  have e:((k + 1:Nat):Int) = (k:Int) + 1:=by omega
  rw [e]
  cases hb:Cv.worthB (Cv.volume l (k + 1)) (Cv.left l (k + 1)) (Cv.away ref (k + 1)) v (Cv.wl l p) (Cv.wa ref p) with
  | true=>exact ⟨_,_,hw.take hl (by omega) hb⟩
  | false=>exact ⟨_,_,hw.keep hl hb⟩
def Rows3 (A D F:Nat) (ra rd rf:Obj) (W:World):Prop:=W.heap[A]? = some ra∧W.heap[D]? = some rd∧W.heap[F]? = some rf
theorem rows3_all (A D F:Nat) (ra rd rf:Obj):∃ (X:Type) (val:X→World),(∀ x,Rows3 A D F ra rd rf (val x))∧∀ W,Rows3 A D F ra rd rf W→∃ x,val x = W :=
 ⟨{ W:World // Rows3 A D F ra rd rf W },fun x=>x.1,fun x=>x.2,fun W h=>⟨⟨W,h⟩,rfl⟩⟩
theorem lots_row {w:World} {base:Nat} {v:Value} {l:List Cv.Lot} (h:w.ownsRow base 137 5 v l.length (flat l)):Lots w v l:=by
 obtain ⟨g,h1,_⟩:=OwnL.of_row h
 rcases h1 with h1 | ⟨o,cap,cur,e,h2,h3,_⟩
 ·exact .inl h1
 ·exact .inr ⟨g,o,cap,e,h2,h3⟩
namespace Fl
def runF (s:Int) (l:List Cv.Lot) (o:Bool) (p vol:Int):List (Int × Int):=if o = true∧0 < vol then Ra.fills s l p vol else []
end Fl
theorem fills_row (v:Value) (l:List Cv.Lot) (price vol s:Int) (T:TypeId) (v1 v2 v6 v7:Value) (w:World) (hv:Lots w v l) (he:Er w T v1 v6 v7) (c2:w.cell? ⟨3,0,none⟩ = some (.iface T v2)) (hf:Ra.Fine l price vol) (hs:Ra.IsU s) :
  Calls Tryz.prog 164 #[v,.int .i64 price,.int .i64 vol,.int .u32 s] w fun e w'=>∃ v',e = .returned (.tuple #[v',.nilIface])∧FRow w' v' (Ra.fills s l price vol)∧Below w.heap.size w w':=by
 obtain ⟨hw,⟨h1,h2⟩,h3,h4⟩:=hf
 have hvl:=vol_le hw price
 obtain ⟨a,n,cap,rfl⟩:=hv.form
 have hck:=rcheck_more a n cap price vol (Cv.volume l price) T v2 w (check_well _ l T v1 v6 v7 w hv he hw) c2 (by show Wi.withinB price 1 1000 = true;simp [Wi.withinB,h1,h2]) (by omega) (fun w1 hb=>volume_any _ l price T v1 v6 v7 w1 (hv.later hb) (he.later hb) hw)
 rw [if_neg (by omega)] at hck
 have hl:=Ra.fills_length s (l:=l) (price:=price) (vol:=vol) ⟨hw,⟨h1,h2⟩,h3,h4⟩
 refine (fills_of a n cap price vol s (Ra.nextSeed s) l _ _ w hck hv hw h1 h2 h3 (by omega) hs (Ra.nextSeed_u hs) ?_ rfl rfl hl.1 hl.2).mono ?_
 ·unfold Ra.nextSeed
  by_cases e:s = 4294967295
  ·exact .inl ⟨e,by rw [if_pos e]⟩
  ·exact .inr ⟨hs.1,by have:=hs.2;omega,by rw [if_neg e]⟩
 ·rintro e w' ⟨v',rfl,hr,hb⟩
  exact ⟨v',rfl,FRow.of_row hr,hb⟩
def resV (p vol:Int) (o:Bool) (v:Value):Value:=.agg #[.int .i64 p,.int .i64 vol,.bool o,v]
theorem set4_row {W:World} {R:Nat} (hz:W.heap[R]? = some (.cells #[.int .i64 0,.int .i64 0,.bool false,.slice none 0 0] 223 (0,0))) (p vol:Int) (o:Bool) (u:Value) :
  ((((W.setCell ⟨R,0,none⟩ (.int .i64 p)).setCell ⟨R,1,none⟩ (.int .i64 vol)).setCell ⟨R,2,none⟩ (.bool o)).setCell ⟨R,3,none⟩ u).heap[R]? = some (.cells #[.int .i64 p,.int .i64 vol,.bool o,u] 223 (0,0)):=by
 have h0:(W.setCell ⟨R,0,none⟩ (.int .i64 p)).heap[R]? = some (.cells #[.int .i64 p,.int .i64 0,.bool false,.slice none 0 0] 223 (0,0)):=by
  rw [setCell_eq_setRow _ R 0 _ _ _ _ hz];exact setRow_heap _ R _ _ _ _ hz
 have h1:((W.setCell ⟨R,0,none⟩ (.int .i64 p)).setCell ⟨R,1,none⟩ (.int .i64 vol)).heap[R]? = some (.cells #[.int .i64 p,.int .i64 vol,.bool false,.slice none 0 0] 223 (0,0)):=by
  rw [setCell_eq_setRow _ R 1 _ _ _ _ h0];exact setRow_heap _ R _ _ _ _ h0
 have h2:(((W.setCell ⟨R,0,none⟩ (.int .i64 p)).setCell ⟨R,1,none⟩ (.int .i64 vol)).setCell ⟨R,2,none⟩ (.bool o)).heap[R]? = some (.cells #[.int .i64 p,.int .i64 vol,.bool o,.slice none 0 0] 223 (0,0)):=by
  rw [setCell_eq_setRow _ R 2 _ _ _ _ h1];exact setRow_heap _ R _ _ _ _ h1
 rw [setCell_eq_setRow _ R 3 _ _ _ _ h2];exact setRow_heap _ R _ _ _ _ h2
theorem Save.put {W W1:World} {q:Nat} (h:Save W W1 q) (o:Nat) (x:Value):Save W (W1.setCell ⟨q,o,none⟩ x) q:=h.trans (Save.setCell _ _ _ _)
theorem FStep.newer {W W1 W2:World} {P:Nat} {I b:Nat→Nat} {v v1:Nat→Value} (h:FStep W W1 P I b v v1) {q:Nat} (hs:Save W1 W2 q) (hq:W.heap.size≤q):FStep W W2 P I b v v1 :=
 ⟨hs.os.trans h.os,hs.tape.trans h.tape,hs.output.trans h.output,Nat.le_trans h.size hs.size,fun k hk h1 h2=>by rw [hs.block k (Nat.lt_of_lt_of_le hk h.size) (by omega)];exact h.keep k hk h1 h2,h.new⟩
section
variable {w W:World} {F P:Nat} {I b:Nat→Nat} {v:Nat→Value} {L:Nat→List Cv.Lot} {pf n:Nat→Int} {wd h:Int} {ev:Nat→Value}
set_option maxHeartbeats 1000000 in
theorem run_still (i:Nat) (hi:i < 3) (s p vol:Int) (hF:Hid (PFl w W F P I b v L pf n wd h)) (he:Hid (AEr w ev)) (hok:Hid (Fs.FOk L pf)) (hband:Hid (Bd.bOk (n (i * 2)) (n (i * 2 + 1)) = true)) (hrule:Hid (Bd.rOk wd h = true)) (hwon:Hid (Cv.Won (L i) (n (i * 2)) 1000 p vol)) (hst:Bd.nO (n (i * 2)) (n (i * 2 + 1)) wd p vol = false∨vol = 0) :
  Calls Tryz.prog 133 #[.pointer (some ⟨F,0,none⟩),.int .i64 i,.int .u32 s] W fun e W'=>e = .returned (.tuple #[resV p vol (Bd.nO (n (i * 2)) (n (i * 2 + 1)) wd p vol) (.slice none 0 0),.nilIface])∧PFl w W' F P I b v L pf (upd (upd n (i * 2) (Bd.nR (n (i * 2)) (n (i * 2 + 1)) wd p vol)) (i * 2 + 1) (Bd.nL (n (i * 2)) (n (i * 2 + 1)) wd h p vol)) wd h∧FStep W W' P I b v v:=by
 have hgw:=good_well (hok.out.bk i hi)
 have hr:Wi.withinB (n (i * 2)) 1 1000 = true:=by
  have:=hband.out
  simp only [Bd.bOk,Bool.and_eq_true] at this
  exact this.1
 have hvok:Bd.vOk p vol = true:=by
  rcases hwon.out with ⟨e1,e2,_⟩ | ⟨e1,e2,e3,_⟩
  ·rw [e2];simp [Bd.vOk]
  ·simp [Bd.vOk,Wi.withinB,e2,e3];omega
 have HPR:Hid (∀ W' u,Lots W' u (L i)→Er W' 362 (ev 1) (ev 6) (ev 7)→Calls Tryz.prog 162 #[u,.int .i64 (n (i * 2))] W' fun e w'=>e = .returned (.tuple #[.int .i64 p,.int .i64 vol,.nilIface])∧Below W'.heap.size W' w'):=fun W' u hu he'=>by
  refine (price_any u (L i) (n (i * 2)) 362 (ev 1) (ev 6) (ev 7) W' hu he' hgw hr).mono ?_
  rintro e w' ⟨⟨p',vol',rfl,hw'⟩,hbl⟩
  obtain ⟨e1,e2⟩:=hw'.unique hwon.out
  rw [e1,e2]
  exact ⟨rfl,hbl⟩
 have HNB:=hide (fun W' (he':BEr W' 362 (ev 1))=>next_ok (n (i * 2)) (n (i * 2 + 1)) wd h p vol 362 (ev 1) W' he' (by rw [hband.out,hrule.out,hvok];rfl))
 unfold nextV bandV at HNB
 clear hgw hr hvok
 generalize hnr:Bd.nR (n (i * 2)) (n (i * 2 + 1)) wd p vol = nr at *
 generalize hnl:Bd.nL (n (i * 2)) (n (i * 2 + 1)) wd h p vol = nl at *
 generalize hno:Bd.nO (n (i * 2)) (n (i * 2 + 1)) wd p vol = no at *
 clear hnr hnl hno
 obtain ⟨R,hR⟩:∃ R,W.heap.size = R:=⟨_,rfl⟩
 obtain ⟨w1,hw1⟩:∃ w1,W.alloc (.cells #[.int .i64 0,.int .i64 0,.bool false,.slice none 0 0] 223) = w1:=⟨_,rfl⟩
 have hb1:Below W.heap.size W w1:=by rw [← hw1];exact (Below.refl _ _).alloc (Nat.le_refl _) _
 have HR1:Hid (w1.heap[R]? = some (.cells #[.int .i64 0,.int .i64 0,.bool false,.slice none 0 0] 223 (0,0))):=by show _ = _;rw [← hw1,← hR];exact heap_alloc_new _ _
 have HF1:=hide (hF.out.later hb1)
 have HS1:=hide (FStep.of_below hb1 P I b v)
 have HFI:=hide (find_in i hi HF1.out)
 have HLT:=hide (lots_any (b i) w.heap.size (v i) (L i) w1 (HF1.out.bk i hi) (hok.out.bk i hi).len)
 have cb:=HF1.out.cellB hi
 have HW1:=hide hw1;have HRe:=hide hR
 clear hb1 hw1 hR
 go_enter Tryz.func133,Tryz.ntmps133
 go_wp2_with fail
 rw [HW1.out,HRe.out]
 refine HFI.out.mono ?_
 rintro e w1 ⟨rfl,rfl⟩
 simp only []
 go_wp2_with fail
 refine HLT.out.mono ?_
 rintro e w2 ⟨v2,rfl,hrow2,hb2⟩
 have HLo2:Hid (Lots w2 v2 (L i)):=lots_row hrow2
 have HF2:=hide (HF1.out.later hb2)
 have HS2:=hide (HS1.out.below hb2)
 have HR2:Hid (w2.heap[R]? = some (.cells #[.int .i64 0,.int .i64 0,.bool false,.slice none 0 0] 223 (0,0))):=by show _ = _;rw [hb2.block _ (lt_of_block HR1.out)];exact HR1.out
 clear hrow2 hb2 HFI HLT cb HF1 HS1 HR1 HW1
 have cr:=HF2.out.cellR hi
 have HP2:=hide (HPR.out w2 v2 HLo2.out (HF2.out.er he.out).er)
 obtain ⟨sa,sm,sc,hv2⟩:=HLo2.out.form
 subst hv2
 simp only []
 go_wp2_with fail
 refine HP2.out.mono ?_
 rintro e w3 ⟨rfl,hb3⟩
 have HF3:=hide (HF2.out.later hb3)
 have HS3:=hide (HS2.out.below hb3)
 have HLo3:=hide (HLo2.out.later hb3)
 have HR3:Hid (w3.heap[R]? = some (.cells #[.int .i64 0,.int .i64 0,.bool false,.slice none 0 0] 223 (0,0))):=by show _ = _;rw [hb3.block _ (lt_of_block HR2.out)];exact HR2.out
 clear hb3 HF2 HS2 HLo2 HR2 cr HPR HP2
 simp only []
 go_wp2_with fail
 obtain ⟨XT,val,hcl,hmk⟩:=rows3_all F (I i) F (.cells (pfloorA I P wd h) 128 (0,0)) (.cells (itemA (b i) (n (i * 2)) (n (i * 2 + 1))) 134 (0,0)) (.cells (pfloorA I P wd h) 128 (0,0))
 obtain ⟨x0,hx0⟩:=hmk w3.drew ⟨HF3.out.blk,HF3.out.it i hi,HF3.out.blk⟩
 have hnx:Nonempty XT:=⟨x0⟩
 have en:∀ x,(val x).cell? ⟨I i,1,none⟩ = some (.int .i64 (n (i * 2))):=fun x=>by rw [cell_of_row _ _ _ _ _ _ (hcl x).2.1];rfl
 have em:∀ x,(val x).cell? ⟨I i,2,none⟩ = some (.int .i64 (n (i * 2 + 1))):=fun x=>by rw [cell_of_row _ _ _ _ _ _ (hcl x).2.1];rfl
 have ew:∀ x,(val x).cell? ⟨F,0,none⟩ = some (.int .i64 wd):=fun x=>by rw [cell_of_row _ _ _ _ _ _ (hcl x).1];rfl
 have eh:∀ x,(val x).cell? ⟨F,1,none⟩ = some (.int .i64 h):=fun x=>by rw [cell_of_row _ _ _ _ _ _ (hcl x).1];rfl
 have hbd:Below w3.heap.size w3 w3.drew:=⟨rfl,rfl,rfl,Nat.le_refl _,fun _ _=>rfl⟩
 have HF4:=hide (HF3.out.later hbd)
 have HS4:=hide (HS3.out.below hbd)
 have HLo4:=hide (HLo3.out.later hbd)
 have HR4:Hid (w3.drew.heap[R]? = some (.cells #[.int .i64 0,.int .i64 0,.bool false,.slice none 0 0] 223 (0,0))):=HR3.out
 obtain ⟨w4,hw4⟩:∃ w4,w3.drew = w4:=⟨_,rfl⟩
 rw [hw4] at HF4 HS4 HLo4 HR4
 have HMK:Hid (∀ W',Below w4.heap.size w4 W'→∃ x,val x = W'):=fun W' hb=>hmk W' ⟨(HF4.out.later hb).blk,(HF4.out.later hb).it i hi,(HF4.out.later hb).blk⟩
 have HNB4:Hid (∀ W',Below w4.heap.size w4 W'→BEr W' 362 (ev 1)):=fun W' hb=>((HF4.out.later hb).er he.out).ber
 clear hmk hcl HF3 HS3 HLo3 HR3 hbd
 refine region_join1 (val:=val) (fun D w6=>w6.heap[D]? = some (.cells #[.int .i64 nr,.int .i64 nl] 78 (0,0))∧w4.heap.size≤D∧Below w4.heap.size w4 w6) (.read 0 (.read 1 (.read 2 (.read 3 (.read 4 (.read 5 (.read 6 (.read 7 (.read 8 (.read 9 (.two 10 (.read 11 (.read 12 (.read 13 (.read 14 (.one 15 (.one 16 (.read 17 (.read 18 .done)))))))) 15 (.one 10 (.read 11 (.read 12 (.read 13 (.read 14 (.one 16 (.read 17 (.read 18 .done))))))))))))))))))) (by kernel_rfl) (by kernel_rfl) x0 hx0 ?_
 apply Exists.intro
 refine ⟨?_,?_⟩
 case' refine_1 =>
  rw [hx0,hw4]
  iterate 10 (refine walkP_read rfl (fun K hK=>?_);refine ⟨by rfl,?_⟩;unfold isRd;go_simp;refine hK _ ?_;clear hK K)
  have HBs:Hid (Below w4.heap.size w4 w4):=Below.refl _ _
  refine ⟨?_,?_⟩
  case refine_1 =>
   refine spec_step rfl (fun K hK=>?_)
   refine ⟨by rfl,?_⟩
   unfold upM
   go_simp
   refine (HNB.out _ (HNB4.out _ HBs.out)).mono ?_
   rintro e wc ⟨rfl,hbc⟩
   have HBc:=hide (HBs.out.trans (hbc.mono HBs.out.size))
   refine ⟨_,rfl,HMK.out _ HBc.out,hK _ _ ?_⟩
   clear hK K hbc
   iterate 4 (refine walkP_read rfl (fun K hK=>?_);refine ⟨by rfl,?_⟩;unfold isRd;go_simp;refine hK _ ?_;clear hK K)
   refine spec_step rfl (fun K hK=>?_)
   refine ⟨by rfl,?_⟩
   unfold upM
   go_simp
   obtain ⟨D,hD⟩:∃ D,wc.heap.size = D:=⟨_,rfl⟩
   obtain ⟨wz,hwz⟩:∃ wz,wc.alloc (.cells #[.int .i64 0,.int .i64 0] 78) = wz:=⟨_,rfl⟩
   rw [hD,hwz]
   have HBz:Hid (Below w4.heap.size w4 wz):=by show Below _ _ _;rw [← hwz];exact HBc.out.alloc HBc.out.size _
   have HZ:Hid (wz.heap[D]? = some (.cells #[.int .i64 0,.int .i64 0] 78 (0,0))):=by show _ = _;rw [← hwz,← hD];exact heap_alloc_new _ _
   have HLD:Hid (w4.heap.size≤D):=by have:=HBc.out.size;show _≤_;omega
   refine ⟨HMK.out _ HBz.out,hK _ _ ?_⟩
   clear hK K hwz hD
   have c0:wz.cell? ⟨D,0,none⟩ = some (.int .i64 0):=by rw [cell_of_row wz _ 0 _ _ _ HZ.out];rfl
   have c1:wz.cell? ⟨D,1,none⟩ = some (.int .i64 0):=by rw [cell_of_row wz _ 1 _ _ _ HZ.out];rfl
   have f0:wz.frozen? ⟨D,0,none⟩ = false:=by simp [World.frozen?,HZ.out]
   have f1:wz.frozen? ⟨D,1,none⟩ = false:=by simp [World.frozen?,HZ.out]
   have HX:Hid (((wz.setCell ⟨D,0,none⟩ (.int .i64 nr)).setCell ⟨D,1,none⟩ (.int .i64 nl)).heap[D]? = some (.cells #[.int .i64 nr,.int .i64 nl] 78 (0,0))):=by
    have h0:(wz.setCell ⟨D,0,none⟩ (.int .i64 nr)).heap[D]? = some (.cells #[.int .i64 nr,.int .i64 0] 78 (0,0)):=by
     rw [setCell_eq_setRow wz D 0 _ _ _ _ HZ.out];exact setRow_heap wz D _ _ _ _ HZ.out
    show _ = _
    rw [setCell_eq_setRow _ D 1 _ _ _ _ h0];exact setRow_heap _ D _ _ _ _ h0
   have HB6:Hid (Below w4.heap.size w4 ((wz.setCell ⟨D,0,none⟩ (.int .i64 nr)).setCell ⟨D,1,none⟩ (.int .i64 nl))):=(HBz.out.setCell (p:=⟨D,0,none⟩) HLD.out _).setCell (p:=⟨D,1,none⟩) HLD.out _
   refine spec_step rfl (fun K hK=>?_)
   refine ⟨by rfl,?_⟩
   unfold upM
   go_simp
   refine ⟨HMK.out _ HB6.out,hK _ _ ?_⟩
   clear hK K HZ c0 c1 f0 f1
   generalize (wz.setCell ⟨D,0,none⟩ (.int .i64 nr)).setCell ⟨D,1,none⟩ (.int .i64 nl) = w6 at *
   iterate 2 (refine walkP_read rfl (fun K hK=>?_);refine ⟨by rfl,?_⟩;unfold isRd;go_simp;refine hK _ ?_;clear hK K)
   refine walkP_done ?_
   exact ⟨D,rfl,HX.out,HLD.out,HB6.out⟩
  case refine_2 =>
   refine spec_step rfl (fun K hK=>?_)
   refine ⟨by rfl,?_⟩
   unfold upM
   go_simp
   obtain ⟨D,hD⟩:∃ D,w4.heap.size = D:=⟨_,rfl⟩
   obtain ⟨wy,hwz⟩:∃ wz,w4.alloc (.cells #[.int .i64 0,.int .i64 0] 78) = wz:=⟨_,rfl⟩
   rw [hD,hwz]
   have HBy:Hid (Below w4.heap.size w4 wy):=by show Below _ _ _;rw [← hwz];exact HBs.out.alloc HBs.out.size _
   have HZy:Hid (wy.heap[D]? = some (.cells #[.int .i64 0,.int .i64 0] 78 (0,0))):=by show _ = _;rw [← hwz,← hD];exact heap_alloc_new _ _
   have HLD:Hid (w4.heap.size≤D):=by have:=HBs.out.size;show _≤_;omega
   refine ⟨HMK.out _ HBy.out,hK _ _ ?_⟩
   clear hK K hwz hD
   refine spec_step rfl (fun K hK=>?_)
   refine ⟨by rfl,?_⟩
   unfold upM
   go_simp
   refine (HNB.out _ (HNB4.out _ HBy.out)).mono ?_
   rintro e wz ⟨rfl,hbc⟩
   have HBz:=hide (HBy.out.trans (hbc.mono HBy.out.size))
   have HZ:Hid (wz.heap[D]? = some (.cells #[.int .i64 0,.int .i64 0] 78 (0,0))):=by show _ = _;rw [hbc.block _ (lt_of_block HZy.out)];exact HZy.out
   refine ⟨_,rfl,HMK.out _ HBz.out,hK _ _ ?_⟩
   clear hK K hbc
   iterate 4 (refine walkP_read rfl (fun K hK=>?_);refine ⟨by rfl,?_⟩;unfold isRd;go_simp;refine hK _ ?_;clear hK K)
   have c0:wz.cell? ⟨D,0,none⟩ = some (.int .i64 0):=by rw [cell_of_row wz _ 0 _ _ _ HZ.out];rfl
   have c1:wz.cell? ⟨D,1,none⟩ = some (.int .i64 0):=by rw [cell_of_row wz _ 1 _ _ _ HZ.out];rfl
   have f0:wz.frozen? ⟨D,0,none⟩ = false:=by simp [World.frozen?,HZ.out]
   have f1:wz.frozen? ⟨D,1,none⟩ = false:=by simp [World.frozen?,HZ.out]
   have HX:Hid (((wz.setCell ⟨D,0,none⟩ (.int .i64 nr)).setCell ⟨D,1,none⟩ (.int .i64 nl)).heap[D]? = some (.cells #[.int .i64 nr,.int .i64 nl] 78 (0,0))):=by
    have h0:(wz.setCell ⟨D,0,none⟩ (.int .i64 nr)).heap[D]? = some (.cells #[.int .i64 nr,.int .i64 0] 78 (0,0)):=by
     rw [setCell_eq_setRow wz D 0 _ _ _ _ HZ.out];exact setRow_heap wz D _ _ _ _ HZ.out
    show _ = _
    rw [setCell_eq_setRow _ D 1 _ _ _ _ h0];exact setRow_heap _ D _ _ _ _ h0
   have HB6:Hid (Below w4.heap.size w4 ((wz.setCell ⟨D,0,none⟩ (.int .i64 nr)).setCell ⟨D,1,none⟩ (.int .i64 nl))):=(HBz.out.setCell (p:=⟨D,0,none⟩) HLD.out _).setCell (p:=⟨D,1,none⟩) HLD.out _
   refine spec_step rfl (fun K hK=>?_)
   refine ⟨by rfl,?_⟩
   unfold upM
   go_simp
   refine ⟨HMK.out _ HB6.out,hK _ _ ?_⟩
   clear hK K HZ c0 c1 f0 f1
   generalize (wz.setCell ⟨D,0,none⟩ (.int .i64 nr)).setCell ⟨D,1,none⟩ (.int .i64 nl) = w6 at *
   iterate 2 (refine walkP_read rfl (fun K hK=>?_);refine ⟨by rfl,?_⟩;unfold isRd;go_simp;refine hK _ ?_;clear hK K)
   refine walkP_done ?_
   exact ⟨D,rfl,HX.out,HLD.out,HB6.out⟩
 intro D w6 ⟨hX6,hD6,hb6⟩
 have HX:=hide hX6;have HDn:=hide hD6
 have HF6:=hide (HF4.out.later hb6)
 have HS6:=hide (HS4.out.below hb6)
 have HLo6:=hide (HLo4.out.later hb6)
 have HR6:Hid (w6.heap[R]? = some (.cells #[.int .i64 0,.int .i64 0,.bool false,.slice none 0 0] 223 (0,0))):=by show _ = _;rw [hb6.block _ (lt_of_block HR4.out)];exact HR4.out
 clear hX6 hD6 hb6 HF4 HS4 HLo4 HR4 HNB hw4
 clear hx0 en em ew eh HMK HNB4
 clear x0 hnx
 clear val
 clear XT
 have HFi:=hide (HF6.out.it i hi)
 have d0:w6.cell? ⟨D,0,none⟩ = some (.int .i64 nr):=by rw [cell_of_row w6 _ 0 _ _ _ HX.out];rfl
 have d1:w6.cell? ⟨D,1,none⟩ = some (.int .i64 nl):=by rw [cell_of_row w6 _ 1 _ _ _ HX.out];rfl
 have i1:w6.cell? ⟨I i,1,none⟩ = some (.int .i64 (n (i * 2))):=by rw [cell_of_row w6 _ 1 _ _ _ HFi.out];rfl
 have i2:w6.cell? ⟨I i,2,none⟩ = some (.int .i64 (n (i * 2 + 1))):=by rw [cell_of_row w6 _ 2 _ _ _ HFi.out];rfl
 have j1:w6.frozen? ⟨I i,1,none⟩ = false:=by simp [World.frozen?,HFi.out]
 have j2:w6.frozen? ⟨I i,2,none⟩ = false:=by simp [World.frozen?,HFi.out]
 have r0:w6.cell? ⟨R,0,none⟩ = some (.int .i64 0):=by rw [cell_of_row w6 _ 0 _ _ _ HR6.out];rfl
 have r1:w6.cell? ⟨R,1,none⟩ = some (.int .i64 0):=by rw [cell_of_row w6 _ 1 _ _ _ HR6.out];rfl
 have r2:w6.cell? ⟨R,2,none⟩ = some (.bool false):=by rw [cell_of_row w6 _ 2 _ _ _ HR6.out];rfl
 have r3:w6.cell? ⟨R,3,none⟩ = some (.slice none 0 0):=by rw [cell_of_row w6 _ 3 _ _ _ HR6.out];rfl
 have q0:w6.frozen? ⟨R,0,none⟩ = false:=by simp [World.frozen?,HR6.out]
 have q1:w6.frozen? ⟨R,1,none⟩ = false:=by simp [World.frozen?,HR6.out]
 have q2:w6.frozen? ⟨R,2,none⟩ = false:=by simp [World.frozen?,HR6.out]
 have q3:w6.frozen? ⟨R,3,none⟩ = false:=by simp [World.frozen?,HR6.out]
 have hRl:R < w6.heap.size:=lt_of_block HR6.out
 have hIl:I i < w6.heap.size:=lt_of_block HFi.out
 have hDl:D < w6.heap.size:=lt_of_block HX.out
 have hRn:¬ R = w6.heap.size:=by omega
 have hIn:¬ I i = w6.heap.size:=by omega
 have hDn:¬ D = w6.heap.size:=by omega
 have hRI:R≠I i:=blkT HR6.out HFi.out (by decide)
 have hIR:I i≠R:=Ne.symm hRI
 have hDI:D≠I i:=blkT HX.out HFi.out (by decide)
 have hDR:D≠R:=blkT HX.out HR6.out (by decide)
 have HIT:Hid (((w6.setCell ⟨I i,1,none⟩ (.int .i64 nr)).setCell ⟨I i,2,none⟩ (.int .i64 nl)).heap[I i]? = some (.cells (itemA (b i) nr nl) 134 (0,0))):=by
  have h0:(w6.setCell ⟨I i,1,none⟩ (.int .i64 nr)).heap[I i]? = some (.cells #[.pointer (some ⟨b i,0,none⟩),.int .i64 nr,.int .i64 (n (i * 2 + 1))] 134 (0,0)):=by
   rw [setCell_eq_setRow w6 (I i) 1 _ _ _ _ HFi.out];exact setRow_heap w6 (I i) _ _ _ _ HFi.out
  show _ = _
  rw [setCell_eq_setRow _ (I i) 2 _ _ _ _ h0];exact setRow_heap _ (I i) _ _ _ _ h0
 have HFb:=hide (HF6.out.band hi HIT.out ((Save.setCell _ _ _ _).put _ _))
 have HSb:=hide (HS6.out.trans (FStep.of_item hi ((Save.setCell w6 (I i) 1 (.int .i64 nr)).put 2 (.int .i64 nl)) P b v))
 have HRb:Hid (((w6.setCell ⟨I i,1,none⟩ (.int .i64 nr)).setCell ⟨I i,2,none⟩ (.int .i64 nl)).heap[R]? = some (.cells #[.int .i64 0,.int .i64 0,.bool false,.slice none 0 0] 223 (0,0))):=by
  show _ = _
  rw [((Save.setCell w6 (I i) 1 (.int .i64 nr)).put 2 (.int .i64 nl)).block R hRl hRI];exact HR6.out
 have HLR:Hid (w.heap.size≤R):=by have:=hF.out.bl.size;have:=HRe.out;show _≤_;omega
 rcases hst with e | e
 ·subst e
  generalize hWb:(w6.setCell ⟨I i,1,none⟩ (.int .i64 nr)).setCell ⟨I i,2,none⟩ (.int .i64 nl) = wb at *
  have HSR:Hid (Save wb ((((wb.setCell ⟨R,0,none⟩ (.int .i64 p)).setCell ⟨R,1,none⟩ (.int .i64 vol)).setCell ⟨R,2,none⟩ (.bool false)).setCell ⟨R,3,none⟩ (.slice none 0 0)) R):=(((Save.setCell _ R 0 (.int .i64 p)).put 1 (.int .i64 vol)).put 2 (.bool false)).put 3 (.slice none 0 0)
  have HFz:=hide ((HFb.out.aside (blkT HRb.out HFb.out.blk (by decide)) (blkT HRb.out HFb.out.pu (by decide)) (fun j hj=>⟨blkT HRb.out (HFb.out.it j hj) (by decide),blkT HRb.out (HFb.out.bk j hj).cell (by decide),rowT (HFb.out.bk j hj).row HRb.out (by decide)⟩) HLR.out HSR.out).later ((Below.refl _ _).alloc (Nat.le_refl _) (.cells #[.int .i64 p,.int .i64 vol,.bool false,.slice none 0 0] 223)))
  have HSz:Hid (FStep W (((((wb.setCell ⟨R,0,none⟩ (.int .i64 p)).setCell ⟨R,1,none⟩ (.int .i64 vol)).setCell ⟨R,2,none⟩ (.bool false)).setCell ⟨R,3,none⟩ (.slice none 0 0)).alloc (.cells #[.int .i64 p,.int .i64 vol,.bool false,.slice none 0 0] 223)) P I b v v):=(HSb.out.newer HSR.out (by rw [HRe.out];exact Nat.le_refl _)).below ((Below.refl _ _).alloc (Nat.le_refl _) _)
  have HRz:Hid ((((((wb.setCell ⟨R,0,none⟩ (.int .i64 p)).setCell ⟨R,1,none⟩ (.int .i64 vol)).setCell ⟨R,2,none⟩ (.bool false)).setCell ⟨R,3,none⟩ (.slice none 0 0)).alloc (.cells #[.int .i64 p,.int .i64 vol,.bool false,.slice none 0 0] 223)).heap[R]? = some (.cells #[.int .i64 p,.int .i64 vol,.bool false,.slice none 0 0] 223 (0,0))):=(Below.heap_alloc _ _ _ (lt_of_block (set4_row HRb.out p vol false _))).trans (set4_row HRb.out p vol false _)
  have HWb:=hide hWb
  clear hWb
  go_wp2
  rw [HWb.out]
  generalize (((((wb.setCell ⟨R,0,none⟩ (.int .i64 p)).setCell ⟨R,1,none⟩ (.int .i64 vol)).setCell ⟨R,2,none⟩ (.bool false)).setCell ⟨R,3,none⟩ (.slice none 0 0)).alloc (.cells #[.int .i64 p,.int .i64 vol,.bool false,.slice none 0 0] 223)) = Wf at *
  have z0:Wf.cell? ⟨R,0,none⟩ = some (.int .i64 p):=by rw [cell_of_row Wf _ 0 _ _ _ HRz.out];rfl
  have z1:Wf.cell? ⟨R,1,none⟩ = some (.int .i64 vol):=by rw [cell_of_row Wf _ 1 _ _ _ HRz.out];rfl
  have z2:Wf.cell? ⟨R,2,none⟩ = some (.bool false):=by rw [cell_of_row Wf _ 2 _ _ _ HRz.out];rfl
  have z3:Wf.cell? ⟨R,3,none⟩ = some (.slice none 0 0):=by rw [cell_of_row Wf _ 3 _ _ _ HRz.out];rfl
  exact bodyPost_ret (v:=.tuple #[.agg #[.int .i64 p,.int .i64 vol,.bool false,.slice none 0 0],.nilIface]) (by simp [results,Tryz.results133,go_sem,z0,z1,z2,z3]) rfl ⟨rfl,HFz.out,HSz.out⟩
 ·subst e
  cases no
  ·skip
   generalize hWb:(w6.setCell ⟨I i,1,none⟩ (.int .i64 nr)).setCell ⟨I i,2,none⟩ (.int .i64 nl) = wb at *
   have HSR:Hid (Save wb ((((wb.setCell ⟨R,0,none⟩ (.int .i64 p)).setCell ⟨R,1,none⟩ (.int .i64 0)).setCell ⟨R,2,none⟩ (.bool false)).setCell ⟨R,3,none⟩ (.slice none 0 0)) R):=(((Save.setCell _ R 0 (.int .i64 p)).put 1 (.int .i64 0)).put 2 (.bool false)).put 3 (.slice none 0 0)
   have HFz:=hide ((HFb.out.aside (blkT HRb.out HFb.out.blk (by decide)) (blkT HRb.out HFb.out.pu (by decide)) (fun j hj=>⟨blkT HRb.out (HFb.out.it j hj) (by decide),blkT HRb.out (HFb.out.bk j hj).cell (by decide),rowT (HFb.out.bk j hj).row HRb.out (by decide)⟩) HLR.out HSR.out).later ((Below.refl _ _).alloc (Nat.le_refl _) (.cells #[.int .i64 p,.int .i64 0,.bool false,.slice none 0 0] 223)))
   have HSz:Hid (FStep W (((((wb.setCell ⟨R,0,none⟩ (.int .i64 p)).setCell ⟨R,1,none⟩ (.int .i64 0)).setCell ⟨R,2,none⟩ (.bool false)).setCell ⟨R,3,none⟩ (.slice none 0 0)).alloc (.cells #[.int .i64 p,.int .i64 0,.bool false,.slice none 0 0] 223)) P I b v v):=(HSb.out.newer HSR.out (by rw [HRe.out];exact Nat.le_refl _)).below ((Below.refl _ _).alloc (Nat.le_refl _) _)
   have HRz:Hid ((((((wb.setCell ⟨R,0,none⟩ (.int .i64 p)).setCell ⟨R,1,none⟩ (.int .i64 0)).setCell ⟨R,2,none⟩ (.bool false)).setCell ⟨R,3,none⟩ (.slice none 0 0)).alloc (.cells #[.int .i64 p,.int .i64 0,.bool false,.slice none 0 0] 223)).heap[R]? = some (.cells #[.int .i64 p,.int .i64 0,.bool false,.slice none 0 0] 223 (0,0))):=(Below.heap_alloc _ _ _ (lt_of_block (set4_row HRb.out p 0 false _))).trans (set4_row HRb.out p 0 false _)
   have HWb:=hide hWb
   clear hWb
   go_wp2
   rw [HWb.out]
   generalize (((((wb.setCell ⟨R,0,none⟩ (.int .i64 p)).setCell ⟨R,1,none⟩ (.int .i64 0)).setCell ⟨R,2,none⟩ (.bool false)).setCell ⟨R,3,none⟩ (.slice none 0 0)).alloc (.cells #[.int .i64 p,.int .i64 0,.bool false,.slice none 0 0] 223)) = Wf at *
   have z0:Wf.cell? ⟨R,0,none⟩ = some (.int .i64 p):=by rw [cell_of_row Wf _ 0 _ _ _ HRz.out];rfl
   have z1:Wf.cell? ⟨R,1,none⟩ = some (.int .i64 0):=by rw [cell_of_row Wf _ 1 _ _ _ HRz.out];rfl
   have z2:Wf.cell? ⟨R,2,none⟩ = some (.bool false):=by rw [cell_of_row Wf _ 2 _ _ _ HRz.out];rfl
   have z3:Wf.cell? ⟨R,3,none⟩ = some (.slice none 0 0):=by rw [cell_of_row Wf _ 3 _ _ _ HRz.out];rfl
   exact bodyPost_ret (v:=.tuple #[.agg #[.int .i64 p,.int .i64 0,.bool false,.slice none 0 0],.nilIface]) (by simp [results,Tryz.results133,go_sem,z0,z1,z2,z3]) rfl ⟨rfl,HFz.out,HSz.out⟩
  ·skip
   generalize hWb:(w6.setCell ⟨I i,1,none⟩ (.int .i64 nr)).setCell ⟨I i,2,none⟩ (.int .i64 nl) = wb at *
   have HSR:Hid (Save wb ((((wb.setCell ⟨R,0,none⟩ (.int .i64 p)).setCell ⟨R,1,none⟩ (.int .i64 0)).setCell ⟨R,2,none⟩ (.bool true)).setCell ⟨R,3,none⟩ (.slice none 0 0)) R):=(((Save.setCell _ R 0 (.int .i64 p)).put 1 (.int .i64 0)).put 2 (.bool true)).put 3 (.slice none 0 0)
   have HFz:=hide ((HFb.out.aside (blkT HRb.out HFb.out.blk (by decide)) (blkT HRb.out HFb.out.pu (by decide)) (fun j hj=>⟨blkT HRb.out (HFb.out.it j hj) (by decide),blkT HRb.out (HFb.out.bk j hj).cell (by decide),rowT (HFb.out.bk j hj).row HRb.out (by decide)⟩) HLR.out HSR.out).later ((Below.refl _ _).alloc (Nat.le_refl _) (.cells #[.int .i64 p,.int .i64 0,.bool true,.slice none 0 0] 223)))
   have HSz:Hid (FStep W (((((wb.setCell ⟨R,0,none⟩ (.int .i64 p)).setCell ⟨R,1,none⟩ (.int .i64 0)).setCell ⟨R,2,none⟩ (.bool true)).setCell ⟨R,3,none⟩ (.slice none 0 0)).alloc (.cells #[.int .i64 p,.int .i64 0,.bool true,.slice none 0 0] 223)) P I b v v):=(HSb.out.newer HSR.out (by rw [HRe.out];exact Nat.le_refl _)).below ((Below.refl _ _).alloc (Nat.le_refl _) _)
   have HRz:Hid ((((((wb.setCell ⟨R,0,none⟩ (.int .i64 p)).setCell ⟨R,1,none⟩ (.int .i64 0)).setCell ⟨R,2,none⟩ (.bool true)).setCell ⟨R,3,none⟩ (.slice none 0 0)).alloc (.cells #[.int .i64 p,.int .i64 0,.bool true,.slice none 0 0] 223)).heap[R]? = some (.cells #[.int .i64 p,.int .i64 0,.bool true,.slice none 0 0] 223 (0,0))):=(Below.heap_alloc _ _ _ (lt_of_block (set4_row HRb.out p 0 true _))).trans (set4_row HRb.out p 0 true _)
   have HWb:=hide hWb
   clear hWb
   go_wp2
   rw [HWb.out]
   generalize (((((wb.setCell ⟨R,0,none⟩ (.int .i64 p)).setCell ⟨R,1,none⟩ (.int .i64 0)).setCell ⟨R,2,none⟩ (.bool true)).setCell ⟨R,3,none⟩ (.slice none 0 0)).alloc (.cells #[.int .i64 p,.int .i64 0,.bool true,.slice none 0 0] 223)) = Wf at *
   have z0:Wf.cell? ⟨R,0,none⟩ = some (.int .i64 p):=by rw [cell_of_row Wf _ 0 _ _ _ HRz.out];rfl
   have z1:Wf.cell? ⟨R,1,none⟩ = some (.int .i64 0):=by rw [cell_of_row Wf _ 1 _ _ _ HRz.out];rfl
   have z2:Wf.cell? ⟨R,2,none⟩ = some (.bool true):=by rw [cell_of_row Wf _ 2 _ _ _ HRz.out];rfl
   have z3:Wf.cell? ⟨R,3,none⟩ = some (.slice none 0 0):=by rw [cell_of_row Wf _ 3 _ _ _ HRz.out];rfl
   exact bodyPost_ret (v:=.tuple #[.agg #[.int .i64 p,.int .i64 0,.bool true,.slice none 0 0],.nilIface]) (by simp [results,Tryz.results133,go_sem,z0,z1,z2,z3]) rfl ⟨rfl,HFz.out,HSz.out⟩
end
section
variable {w W:World} {F P:Nat} {I b:Nat→Nat} {v:Nat→Value} {L:Nat→List Cv.Lot} {pf n:Nat→Int} {wd h:Int} {ev:Nat→Value}
set_option maxHeartbeats 1000000 in
theorem run_open (i:Nat) (hi:i < 3) (s p vol:Int) (hs:Hid (Ra.IsU s)) (hF:Hid (PFl w W F P I b v L pf n wd h)) (he:Hid (AEr w ev)) (hok:Hid (Fs.FOk L pf)) (hband:Hid (Bd.bOk (n (i * 2)) (n (i * 2 + 1)) = true)) (hrule:Hid (Bd.rOk wd h = true)) (hwon:Hid (Cv.Won (L i) (n (i * 2)) 1000 p vol)) (hno:Bd.nO (n (i * 2)) (n (i * 2 + 1)) wd p vol = true) (hvol:0 < vol) :
  Calls Tryz.prog 133 #[.pointer (some ⟨F,0,none⟩),.int .i64 i,.int .u32 s] W fun e W'=>∃ vF v',e = .returned (.tuple #[resV p vol true vF,.nilIface])∧PFl w W' F P I b v' (upd L i (Fs.restL (Ra.fills s (L i) p vol) (L i))) (Fs.sett pf i p (L i) (Ra.fills s (L i) p vol)) (upd (upd n (i * 2) (Bd.nR (n (i * 2)) (n (i * 2 + 1)) wd p vol)) (i * 2 + 1) (Bd.nL (n (i * 2)) (n (i * 2 + 1)) wd h p vol)) wd h∧FStep W W' P I b v v'∧FRow W' vF (Ra.fills s (L i) p vol)∧Fs.FOk (upd L i (Fs.restL (Ra.fills s (L i) p vol) (L i))) (Fs.sett pf i p (L i) (Ra.fills s (L i) p vol)):=by
 have hfine:=Fs.won_fine (good_well (hok.out.bk i hi)) hwon.out hvol
 have HFine:=hide hfine
 obtain ⟨FF,hFF⟩:∃ FF,Ra.fills s (L i) p vol = FF:=⟨_,rfl⟩
 have hfil:=Fs.fil_of hfine s
 rw [hFF] at hfil
 have hlen:FF.length≤200:=by
  rw [← hFF]
  unfold Ra.fills
  have h60:=(hok.out.bk i hi).len
  have h1:=Ra.side_length s (hok.out.bk i hi).oks 0 p vol hfine.2.1.1 hfine.2.1.2 hfine.2.2.1
  have h2:=Ra.side_length (Ra.nextSeed s) (hok.out.bk i hi).oks 1 p vol hfine.2.1.1 hfine.2.1.2 hfine.2.2.1
  rw [List.length_append]
  omega
 have hnil:FF≠[]:=fun e=>by
  have hsum:=Ra.sum_side hfine s 0 (.inl rfl)
  rw [hFF,e,Fs.sumG_by,Fs.sumBy_zero (fun x _=>by show (if x.sd = 0 then (0:Int) else 0) = 0;split <;> rfl)] at hsum
  omega
 have HFil:=hide hfil;have HLen:=hide hlen;have HNil:=hide hnil;have HFF:=hide hFF;have HPp:=hide hfine.2.1
 rw [hFF]
 clear hfil hlen hnil hFF hfine
 have hgw:=good_well (hok.out.bk i hi)
 have hr:Wi.withinB (n (i * 2)) 1 1000 = true:=by
  have:=hband.out
  simp only [Bd.bOk,Bool.and_eq_true] at this
  exact this.1
 have hvok:Bd.vOk p vol = true:=by
  rcases hwon.out with ⟨e1,e2,_⟩ | ⟨e1,e2,e3,_⟩
  ·rw [e2];simp [Bd.vOk]
  ·simp [Bd.vOk,Wi.withinB,e2,e3];omega
 have HPR:Hid (∀ W' u,Lots W' u (L i)→Er W' 362 (ev 1) (ev 6) (ev 7)→Calls Tryz.prog 162 #[u,.int .i64 (n (i * 2))] W' fun e w'=>e = .returned (.tuple #[.int .i64 p,.int .i64 vol,.nilIface])∧Below W'.heap.size W' w'):=fun W' u hu he'=>by
  refine (price_any u (L i) (n (i * 2)) 362 (ev 1) (ev 6) (ev 7) W' hu he' hgw hr).mono ?_
  rintro e w' ⟨⟨p',vol',rfl,hw'⟩,hbl⟩
  obtain ⟨e1,e2⟩:=hw'.unique hwon.out
  rw [e1,e2]
  exact ⟨rfl,hbl⟩
 have HNB:=hide (fun W' (he':BEr W' 362 (ev 1))=>next_ok (n (i * 2)) (n (i * 2 + 1)) wd h p vol 362 (ev 1) W' he' (by rw [hband.out,hrule.out,hvok];rfl))
 unfold nextV bandV at HNB
 clear hgw hr hvok
 generalize hnr:Bd.nR (n (i * 2)) (n (i * 2 + 1)) wd p vol = nr at *
 generalize hnl:Bd.nL (n (i * 2)) (n (i * 2 + 1)) wd h p vol = nl at *
 rw [hno] at HNB
 clear hnr hnl hno
 obtain ⟨R,hR⟩:∃ R,W.heap.size = R:=⟨_,rfl⟩
 obtain ⟨w1,hw1⟩:∃ w1,W.alloc (.cells #[.int .i64 0,.int .i64 0,.bool false,.slice none 0 0] 223) = w1:=⟨_,rfl⟩
 have hb1:Below W.heap.size W w1:=by rw [← hw1];exact (Below.refl _ _).alloc (Nat.le_refl _) _
 have HR1:Hid (w1.heap[R]? = some (.cells #[.int .i64 0,.int .i64 0,.bool false,.slice none 0 0] 223 (0,0))):=by show _ = _;rw [← hw1,← hR];exact heap_alloc_new _ _
 have HF1:=hide (hF.out.later hb1)
 have HS1:=hide (FStep.of_below hb1 P I b v)
 have HFI:=hide (find_in i hi HF1.out)
 have HLT:=hide (lots_any (b i) w.heap.size (v i) (L i) w1 (HF1.out.bk i hi) (hok.out.bk i hi).len)
 have cb:=HF1.out.cellB hi
 have HW1:=hide hw1;have HRe:=hide hR
 clear hb1 hw1 hR
 go_enter Tryz.func133,Tryz.ntmps133
 go_wp2_with fail
 rw [HW1.out,HRe.out]
 refine HFI.out.mono ?_
 rintro e w1 ⟨rfl,rfl⟩
 simp only []
 go_wp2_with fail
 refine HLT.out.mono ?_
 rintro e w2 ⟨v2,rfl,hrow2,hb2⟩
 have HLo2:Hid (Lots w2 v2 (L i)):=lots_row hrow2
 have HF2:=hide (HF1.out.later hb2)
 have HS2:=hide (HS1.out.below hb2)
 have HR2:Hid (w2.heap[R]? = some (.cells #[.int .i64 0,.int .i64 0,.bool false,.slice none 0 0] 223 (0,0))):=by show _ = _;rw [hb2.block _ (lt_of_block HR1.out)];exact HR1.out
 clear hrow2 hb2 HFI HLT cb HF1 HS1 HR1 HW1
 have cr:=HF2.out.cellR hi
 have HP2:=hide (HPR.out w2 v2 HLo2.out (HF2.out.er he.out).er)
 obtain ⟨sa,sm,sc,hv2⟩:=HLo2.out.form
 subst hv2
 simp only []
 go_wp2_with fail
 refine HP2.out.mono ?_
 rintro e w3 ⟨rfl,hb3⟩
 have HF3:=hide (HF2.out.later hb3)
 have HS3:=hide (HS2.out.below hb3)
 have HLo3:=hide (HLo2.out.later hb3)
 have HR3:Hid (w3.heap[R]? = some (.cells #[.int .i64 0,.int .i64 0,.bool false,.slice none 0 0] 223 (0,0))):=by show _ = _;rw [hb3.block _ (lt_of_block HR2.out)];exact HR2.out
 clear hb3 HF2 HS2 HLo2 HR2 cr HPR HP2
 simp only []
 go_wp2_with fail
 obtain ⟨XT,val,hcl,hmk⟩:=rows3_all F (I i) F (.cells (pfloorA I P wd h) 128 (0,0)) (.cells (itemA (b i) (n (i * 2)) (n (i * 2 + 1))) 134 (0,0)) (.cells (pfloorA I P wd h) 128 (0,0))
 obtain ⟨x0,hx0⟩:=hmk w3.drew ⟨HF3.out.blk,HF3.out.it i hi,HF3.out.blk⟩
 have hnx:Nonempty XT:=⟨x0⟩
 have en:∀ x,(val x).cell? ⟨I i,1,none⟩ = some (.int .i64 (n (i * 2))):=fun x=>by rw [cell_of_row _ _ _ _ _ _ (hcl x).2.1];rfl
 have em:∀ x,(val x).cell? ⟨I i,2,none⟩ = some (.int .i64 (n (i * 2 + 1))):=fun x=>by rw [cell_of_row _ _ _ _ _ _ (hcl x).2.1];rfl
 have ew:∀ x,(val x).cell? ⟨F,0,none⟩ = some (.int .i64 wd):=fun x=>by rw [cell_of_row _ _ _ _ _ _ (hcl x).1];rfl
 have eh:∀ x,(val x).cell? ⟨F,1,none⟩ = some (.int .i64 h):=fun x=>by rw [cell_of_row _ _ _ _ _ _ (hcl x).1];rfl
 have hbd:Below w3.heap.size w3 w3.drew:=⟨rfl,rfl,rfl,Nat.le_refl _,fun _ _=>rfl⟩
 have HF4:=hide (HF3.out.later hbd)
 have HS4:=hide (HS3.out.below hbd)
 have HLo4:=hide (HLo3.out.later hbd)
 have HR4:Hid (w3.drew.heap[R]? = some (.cells #[.int .i64 0,.int .i64 0,.bool false,.slice none 0 0] 223 (0,0))):=HR3.out
 obtain ⟨w4,hw4⟩:∃ w4,w3.drew = w4:=⟨_,rfl⟩
 rw [hw4] at HF4 HS4 HLo4 HR4
 have HMK:Hid (∀ W',Below w4.heap.size w4 W'→∃ x,val x = W'):=fun W' hb=>hmk W' ⟨(HF4.out.later hb).blk,(HF4.out.later hb).it i hi,(HF4.out.later hb).blk⟩
 have HNB4:Hid (∀ W',Below w4.heap.size w4 W'→BEr W' 362 (ev 1)):=fun W' hb=>((HF4.out.later hb).er he.out).ber
 clear hmk hcl HF3 HS3 HLo3 HR3 hbd
 refine region_join1 (val:=val) (fun D w6=>w6.heap[D]? = some (.cells #[.int .i64 nr,.int .i64 nl] 78 (0,0))∧w4.heap.size≤D∧Below w4.heap.size w4 w6) (.read 0 (.read 1 (.read 2 (.read 3 (.read 4 (.read 5 (.read 6 (.read 7 (.read 8 (.read 9 (.two 10 (.read 11 (.read 12 (.read 13 (.read 14 (.one 15 (.one 16 (.read 17 (.read 18 .done)))))))) 15 (.one 10 (.read 11 (.read 12 (.read 13 (.read 14 (.one 16 (.read 17 (.read 18 .done))))))))))))))))))) (by kernel_rfl) (by kernel_rfl) x0 hx0 ?_
 apply Exists.intro
 refine ⟨?_,?_⟩
 case' refine_1 =>
  rw [hx0,hw4]
  iterate 10 (refine walkP_read rfl (fun K hK=>?_);refine ⟨by rfl,?_⟩;unfold isRd;go_simp;refine hK _ ?_;clear hK K)
  have HBs:Hid (Below w4.heap.size w4 w4):=Below.refl _ _
  refine ⟨?_,?_⟩
  case refine_1 =>
   refine spec_step rfl (fun K hK=>?_)
   refine ⟨by rfl,?_⟩
   unfold upM
   go_simp
   refine (HNB.out _ (HNB4.out _ HBs.out)).mono ?_
   rintro e wc ⟨rfl,hbc⟩
   have HBc:=hide (HBs.out.trans (hbc.mono HBs.out.size))
   refine ⟨_,rfl,HMK.out _ HBc.out,hK _ _ ?_⟩
   clear hK K hbc
   iterate 4 (refine walkP_read rfl (fun K hK=>?_);refine ⟨by rfl,?_⟩;unfold isRd;go_simp;refine hK _ ?_;clear hK K)
   refine spec_step rfl (fun K hK=>?_)
   refine ⟨by rfl,?_⟩
   unfold upM
   go_simp
   obtain ⟨D,hD⟩:∃ D,wc.heap.size = D:=⟨_,rfl⟩
   obtain ⟨wz,hwz⟩:∃ wz,wc.alloc (.cells #[.int .i64 0,.int .i64 0] 78) = wz:=⟨_,rfl⟩
   rw [hD,hwz]
   have HBz:Hid (Below w4.heap.size w4 wz):=by show Below _ _ _;rw [← hwz];exact HBc.out.alloc HBc.out.size _
   have HZ:Hid (wz.heap[D]? = some (.cells #[.int .i64 0,.int .i64 0] 78 (0,0))):=by show _ = _;rw [← hwz,← hD];exact heap_alloc_new _ _
   have HLD:Hid (w4.heap.size≤D):=by have:=HBc.out.size;show _≤_;omega
   refine ⟨HMK.out _ HBz.out,hK _ _ ?_⟩
   clear hK K hwz hD
   have c0:wz.cell? ⟨D,0,none⟩ = some (.int .i64 0):=by rw [cell_of_row wz _ 0 _ _ _ HZ.out];rfl
   have c1:wz.cell? ⟨D,1,none⟩ = some (.int .i64 0):=by rw [cell_of_row wz _ 1 _ _ _ HZ.out];rfl
   have f0:wz.frozen? ⟨D,0,none⟩ = false:=by simp [World.frozen?,HZ.out]
   have f1:wz.frozen? ⟨D,1,none⟩ = false:=by simp [World.frozen?,HZ.out]
   have HX:Hid (((wz.setCell ⟨D,0,none⟩ (.int .i64 nr)).setCell ⟨D,1,none⟩ (.int .i64 nl)).heap[D]? = some (.cells #[.int .i64 nr,.int .i64 nl] 78 (0,0))):=by
    have h0:(wz.setCell ⟨D,0,none⟩ (.int .i64 nr)).heap[D]? = some (.cells #[.int .i64 nr,.int .i64 0] 78 (0,0)):=by
     rw [setCell_eq_setRow wz D 0 _ _ _ _ HZ.out];exact setRow_heap wz D _ _ _ _ HZ.out
    show _ = _
    rw [setCell_eq_setRow _ D 1 _ _ _ _ h0];exact setRow_heap _ D _ _ _ _ h0
   have HB6:Hid (Below w4.heap.size w4 ((wz.setCell ⟨D,0,none⟩ (.int .i64 nr)).setCell ⟨D,1,none⟩ (.int .i64 nl))):=(HBz.out.setCell (p:=⟨D,0,none⟩) HLD.out _).setCell (p:=⟨D,1,none⟩) HLD.out _
   refine spec_step rfl (fun K hK=>?_)
   refine ⟨by rfl,?_⟩
   unfold upM
   go_simp
   refine ⟨HMK.out _ HB6.out,hK _ _ ?_⟩
   clear hK K HZ c0 c1 f0 f1
   generalize (wz.setCell ⟨D,0,none⟩ (.int .i64 nr)).setCell ⟨D,1,none⟩ (.int .i64 nl) = w6 at *
   iterate 2 (refine walkP_read rfl (fun K hK=>?_);refine ⟨by rfl,?_⟩;unfold isRd;go_simp;refine hK _ ?_;clear hK K)
   refine walkP_done ?_
   exact ⟨D,rfl,HX.out,HLD.out,HB6.out⟩
  case refine_2 =>
   refine spec_step rfl (fun K hK=>?_)
   refine ⟨by rfl,?_⟩
   unfold upM
   go_simp
   obtain ⟨D,hD⟩:∃ D,w4.heap.size = D:=⟨_,rfl⟩
   obtain ⟨wy,hwz⟩:∃ wz,w4.alloc (.cells #[.int .i64 0,.int .i64 0] 78) = wz:=⟨_,rfl⟩
   rw [hD,hwz]
   have HBy:Hid (Below w4.heap.size w4 wy):=by show Below _ _ _;rw [← hwz];exact HBs.out.alloc HBs.out.size _
   have HZy:Hid (wy.heap[D]? = some (.cells #[.int .i64 0,.int .i64 0] 78 (0,0))):=by show _ = _;rw [← hwz,← hD];exact heap_alloc_new _ _
   have HLD:Hid (w4.heap.size≤D):=by have:=HBs.out.size;show _≤_;omega
   refine ⟨HMK.out _ HBy.out,hK _ _ ?_⟩
   clear hK K hwz hD
   refine spec_step rfl (fun K hK=>?_)
   refine ⟨by rfl,?_⟩
   unfold upM
   go_simp
   refine (HNB.out _ (HNB4.out _ HBy.out)).mono ?_
   rintro e wz ⟨rfl,hbc⟩
   have HBz:=hide (HBy.out.trans (hbc.mono HBy.out.size))
   have HZ:Hid (wz.heap[D]? = some (.cells #[.int .i64 0,.int .i64 0] 78 (0,0))):=by show _ = _;rw [hbc.block _ (lt_of_block HZy.out)];exact HZy.out
   refine ⟨_,rfl,HMK.out _ HBz.out,hK _ _ ?_⟩
   clear hK K hbc
   iterate 4 (refine walkP_read rfl (fun K hK=>?_);refine ⟨by rfl,?_⟩;unfold isRd;go_simp;refine hK _ ?_;clear hK K)
   have c0:wz.cell? ⟨D,0,none⟩ = some (.int .i64 0):=by rw [cell_of_row wz _ 0 _ _ _ HZ.out];rfl
   have c1:wz.cell? ⟨D,1,none⟩ = some (.int .i64 0):=by rw [cell_of_row wz _ 1 _ _ _ HZ.out];rfl
   have f0:wz.frozen? ⟨D,0,none⟩ = false:=by simp [World.frozen?,HZ.out]
   have f1:wz.frozen? ⟨D,1,none⟩ = false:=by simp [World.frozen?,HZ.out]
   have HX:Hid (((wz.setCell ⟨D,0,none⟩ (.int .i64 nr)).setCell ⟨D,1,none⟩ (.int .i64 nl)).heap[D]? = some (.cells #[.int .i64 nr,.int .i64 nl] 78 (0,0))):=by
    have h0:(wz.setCell ⟨D,0,none⟩ (.int .i64 nr)).heap[D]? = some (.cells #[.int .i64 nr,.int .i64 0] 78 (0,0)):=by
     rw [setCell_eq_setRow wz D 0 _ _ _ _ HZ.out];exact setRow_heap wz D _ _ _ _ HZ.out
    show _ = _
    rw [setCell_eq_setRow _ D 1 _ _ _ _ h0];exact setRow_heap _ D _ _ _ _ h0
   have HB6:Hid (Below w4.heap.size w4 ((wz.setCell ⟨D,0,none⟩ (.int .i64 nr)).setCell ⟨D,1,none⟩ (.int .i64 nl))):=(HBz.out.setCell (p:=⟨D,0,none⟩) HLD.out _).setCell (p:=⟨D,1,none⟩) HLD.out _
   refine spec_step rfl (fun K hK=>?_)
   refine ⟨by rfl,?_⟩
   unfold upM
   go_simp
   refine ⟨HMK.out _ HB6.out,hK _ _ ?_⟩
   clear hK K HZ c0 c1 f0 f1
   generalize (wz.setCell ⟨D,0,none⟩ (.int .i64 nr)).setCell ⟨D,1,none⟩ (.int .i64 nl) = w6 at *
   iterate 2 (refine walkP_read rfl (fun K hK=>?_);refine ⟨by rfl,?_⟩;unfold isRd;go_simp;refine hK _ ?_;clear hK K)
   refine walkP_done ?_
   exact ⟨D,rfl,HX.out,HLD.out,HB6.out⟩
 intro D w6 ⟨hX6,hD6,hb6⟩
 have HX:=hide hX6;have HDn:=hide hD6
 have HF6:=hide (HF4.out.later hb6)
 have HS6:=hide (HS4.out.below hb6)
 have HLo6:=hide (HLo4.out.later hb6)
 have HR6:Hid (w6.heap[R]? = some (.cells #[.int .i64 0,.int .i64 0,.bool false,.slice none 0 0] 223 (0,0))):=by show _ = _;rw [hb6.block _ (lt_of_block HR4.out)];exact HR4.out
 clear hX6 hD6 hb6 HF4 HS4 HLo4 HR4 HNB hw4
 clear hx0 en em ew eh HMK HNB4
 clear x0 hnx
 clear val
 clear XT
 obtain ⟨E,hE⟩:∃ E,w6.heap.size = E:=⟨_,rfl⟩
 obtain ⟨w7,hw7⟩:∃ w7,w6.alloc (.cells #[.int .i64 p,.int .i64 vol,.bool true,.slice none 0 0] 223) = w7:=⟨_,rfl⟩
 have hb7:Below w6.heap.size w6 w7:=by rw [← hw7];exact (Below.refl _ _).alloc (Nat.le_refl _) _
 have HE7:Hid (w7.heap[E]? = some (.cells #[.int .i64 p,.int .i64 vol,.bool true,.slice none 0 0] 223 (0,0))):=by show _ = _;rw [← hw7,← hE];exact heap_alloc_new _ _
 have HF7:=hide (HF6.out.later hb7)
 have HS7:=hide (HS6.out.below hb7)
 have HLo7:=hide (HLo6.out.later hb7)
 have HR7:Hid (w7.heap[R]? = some (.cells #[.int .i64 0,.int .i64 0,.bool false,.slice none 0 0] 223 (0,0))):=by show _ = _;rw [hb7.block _ (lt_of_block HR6.out)];exact HR6.out
 have HX7:Hid (w7.heap[D]? = some (.cells #[.int .i64 nr,.int .i64 nl] 78 (0,0))):=by show _ = _;rw [hb7.block _ (lt_of_block HX.out)];exact HX.out
 have HRE:Hid (R≠E):=fun e=>by have:=lt_of_block HR6.out;omega
 have HWE:Hid (W.heap.size≤E):=by have:=HS6.out.size;show _≤_;omega
 have HFL:=hide (fills_row (.slice sa sm sc) (L i) p vol s 362 (ev 1) (ev 2) (ev 6) (ev 7) w7 HLo7.out (HF7.out.er he.out).er (HF7.out.er he.out).c2 HFine.out hs.out)
 rw [HFF.out] at HFL
 have HW7:=hide hw7;have HEe:=hide hE
 clear hb7 hw7 hE HF6 HS6 HLo6 HR6 HX HLo7
 go_wp2_with fail
 rw [HW7.out,HEe.out]
 refine HFL.out.mono ?_
 rintro e w8 ⟨vF,rfl,hr8,hb8⟩
 have HF8:=hide (HF7.out.later hb8)
 have HS8:=hide (HS7.out.below hb8)
 have HR8:Hid (w8.heap[R]? = some (.cells #[.int .i64 0,.int .i64 0,.bool false,.slice none 0 0] 223 (0,0))):=by show _ = _;rw [hb8.block _ (lt_of_block HR7.out)];exact HR7.out
 have HX8:Hid (w8.heap[D]? = some (.cells #[.int .i64 nr,.int .i64 nl] 78 (0,0))):=by show _ = _;rw [hb8.block _ (lt_of_block HX7.out)];exact HX7.out
 have HE8:Hid (w8.heap[E]? = some (.cells #[.int .i64 p,.int .i64 vol,.bool true,.slice none 0 0] 223 (0,0))):=by show _ = _;rw [hb8.block _ (lt_of_block HE7.out)];exact HE7.out
 have HRow8:=hide hr8
 clear hr8 hb8 HF7 HS7 HR7 HX7 HE7 HFL HW7
 obtain ⟨aF,cF,hvF⟩:=HRow8.out.val
 obtain ⟨mF,hmF⟩:∃ mF,FF.length = mF:=⟨_,rfl⟩
 rw [hmF] at hvF
 subst hvF
 clear hmF
 have e3:w8.cell? ⟨E,3,none⟩ = some (.slice none 0 0):=by rw [cell_of_row w8 _ 3 _ _ _ HE8.out];rfl
 have g3:w8.frozen? ⟨E,3,none⟩ = false:=by simp [World.frozen?,HE8.out]
 obtain ⟨w9,hw9⟩:∃ w9,w8.setCell ⟨E,3,none⟩ (.slice aF mF cF) = w9:=⟨_,rfl⟩
 have hs9:Save w8 w9 E:=by rw [← hw9];exact Save.setCell _ _ _ _
 have HE9:Hid (w9.heap[E]? = some (.cells #[.int .i64 p,.int .i64 vol,.bool true,.slice aF mF cF] 223 (0,0))):=by show _ = _;rw [← hw9,setCell_eq_setRow _ E 3 _ _ _ _ HE8.out];exact setRow_heap _ E _ _ _ _ HE8.out
 have HF9:=hide (HF8.out.aside (blkT HE8.out HF8.out.blk (by decide)) (blkT HE8.out HF8.out.pu (by decide)) (fun j hj=>⟨blkT HE8.out (HF8.out.it j hj) (by decide),blkT HE8.out (HF8.out.bk j hj).cell (by decide),rowT (HF8.out.bk j hj).row HE8.out (by decide)⟩) (Nat.le_trans hF.out.bl.size HWE.out) hs9)
 have HS9:=hide (HS8.out.newer hs9 HWE.out)
 have HR9:Hid (w9.heap[R]? = some (.cells #[.int .i64 0,.int .i64 0,.bool false,.slice none 0 0] 223 (0,0))):=by show _ = _;rw [hs9.block _ (lt_of_block HR8.out) HRE.out];exact HR8.out
 have HX9:Hid (w9.heap[D]? = some (.cells #[.int .i64 nr,.int .i64 nl] 78 (0,0))):=by show _ = _;rw [hs9.block _ (lt_of_block HX8.out) (blkT HX8.out HE8.out (by decide))];exact HX8.out
 have HRow9:=hide (HRow8.out.save hs9 HE8.out (by decide))
 have e33:w9.cell? ⟨E,3,none⟩ = some (.slice aF mF cF):=by rw [cell_of_row w9 _ 3 _ _ _ HE9.out];rfl
 have HW9:=hide hw9
 have HST:=hide (settle_any i hi p (.slice aF mF cF) FF HF9.out he hok HFil.out HPp.out.1 HPp.out.2 HRow9.out HLen.out HNil.out)
 have HE33:=hide e33
 clear hs9 hw9 HF8 HS8 HR8 HX8 HE8 HRow8 e33
 simp only []
 go_wp2_with fail
 rw [HW9.out]
 have e33:=HE33.out
 go_wp2_with fail
 refine HST.out.mono ?_
 rintro e wt ⟨rfl,v10,hf10,hs10,hr10,hok10⟩
 have keepB:∀ {q:Nat} {a:Array Value} {T:TypeId},w9.heap[q]? = some (.cells a T (0,0))→T≠137→T≠131→T≠134→T≠139→wt.heap[q]? = some (.cells a T (0,0)):=fun {q a T} hq h1 h2 h3 h4=>by
  rw [hs10.keep q (lt_of_block hq) (blkT hq HF9.out.pu h2) (fun j hj=>⟨blkT hq (HF9.out.it j hj) h3,blkT hq (HF9.out.bk j hj).cell h4,rowT (HF9.out.bk j hj).row hq h1⟩)]
  exact hq
 have HEt:Hid (wt.heap[E]? = some (.cells #[.int .i64 p,.int .i64 vol,.bool true,.slice aF mF cF] 223 (0,0))):=keepB HE9.out (by decide) (by decide) (by decide) (by decide)
 have HRt:Hid (wt.heap[R]? = some (.cells #[.int .i64 0,.int .i64 0,.bool false,.slice none 0 0] 223 (0,0))):=keepB HR9.out (by decide) (by decide) (by decide) (by decide)
 have HXt:Hid (wt.heap[D]? = some (.cells #[.int .i64 nr,.int .i64 nl] 78 (0,0))):=keepB HX9.out (by decide) (by decide) (by decide) (by decide)
 have HFt:=hide hf10;have HSt:=hide (HS9.out.trans hs10);have HRowt:=hide hr10;have HOKt:=hide hok10
 clear keepB hf10 hs10 hr10 hok10 HE9 HR9 HX9 HF9 HS9 HRow9 HST HW9 HE33
 try clear e3 g3
 try clear e33
 have HFi:=hide (HFt.out.it i hi)
 have d0:wt.cell? ⟨D,0,none⟩ = some (.int .i64 nr):=by rw [cell_of_row wt _ 0 _ _ _ HXt.out];rfl
 have d1:wt.cell? ⟨D,1,none⟩ = some (.int .i64 nl):=by rw [cell_of_row wt _ 1 _ _ _ HXt.out];rfl
 have i1:wt.cell? ⟨I i,1,none⟩ = some (.int .i64 (n (i * 2))):=by rw [cell_of_row wt _ 1 _ _ _ HFi.out];rfl
 have i2:wt.cell? ⟨I i,2,none⟩ = some (.int .i64 (n (i * 2 + 1))):=by rw [cell_of_row wt _ 2 _ _ _ HFi.out];rfl
 have j1:wt.frozen? ⟨I i,1,none⟩ = false:=by simp [World.frozen?,HFi.out]
 have j2:wt.frozen? ⟨I i,2,none⟩ = false:=by simp [World.frozen?,HFi.out]
 have r0:wt.cell? ⟨R,0,none⟩ = some (.int .i64 0):=by rw [cell_of_row wt _ 0 _ _ _ HRt.out];rfl
 have r1:wt.cell? ⟨R,1,none⟩ = some (.int .i64 0):=by rw [cell_of_row wt _ 1 _ _ _ HRt.out];rfl
 have r2:wt.cell? ⟨R,2,none⟩ = some (.bool false):=by rw [cell_of_row wt _ 2 _ _ _ HRt.out];rfl
 have r3:wt.cell? ⟨R,3,none⟩ = some (.slice none 0 0):=by rw [cell_of_row wt _ 3 _ _ _ HRt.out];rfl
 have q0:wt.frozen? ⟨R,0,none⟩ = false:=by simp [World.frozen?,HRt.out]
 have q1:wt.frozen? ⟨R,1,none⟩ = false:=by simp [World.frozen?,HRt.out]
 have q2:wt.frozen? ⟨R,2,none⟩ = false:=by simp [World.frozen?,HRt.out]
 have q3:wt.frozen? ⟨R,3,none⟩ = false:=by simp [World.frozen?,HRt.out]
 have hRl:R < wt.heap.size:=lt_of_block HRt.out
 have hIl:I i < wt.heap.size:=lt_of_block HFi.out
 have hDl:D < wt.heap.size:=lt_of_block HXt.out
 have hRn:¬ R = wt.heap.size:=by omega
 have hIn:¬ I i = wt.heap.size:=by omega
 have hDn:¬ D = wt.heap.size:=by omega
 have hRI:R≠I i:=blkT HRt.out HFi.out (by decide)
 have hIR:I i≠R:=Ne.symm hRI
 have hDI:D≠I i:=blkT HXt.out HFi.out (by decide)
 have hDR:D≠R:=blkT HXt.out HRt.out (by decide)
 have e0:wt.cell? ⟨E,0,none⟩ = some (.int .i64 p):=by rw [cell_of_row wt _ 0 _ _ _ HEt.out];rfl
 have e1:wt.cell? ⟨E,1,none⟩ = some (.int .i64 vol):=by rw [cell_of_row wt _ 1 _ _ _ HEt.out];rfl
 have e2:wt.cell? ⟨E,2,none⟩ = some (.bool true):=by rw [cell_of_row wt _ 2 _ _ _ HEt.out];rfl
 have e3:wt.cell? ⟨E,3,none⟩ = some (.slice aF mF cF):=by rw [cell_of_row wt _ 3 _ _ _ HEt.out];rfl
 have hEI:E≠I i:=blkT HEt.out HFi.out (by decide)
 have hER:E≠R:=Ne.symm HRE.out
 have HIT:Hid (((wt.setCell ⟨I i,1,none⟩ (.int .i64 nr)).setCell ⟨I i,2,none⟩ (.int .i64 nl)).heap[I i]? = some (.cells (itemA (b i) nr nl) 134 (0,0))):=by
  have h0:(wt.setCell ⟨I i,1,none⟩ (.int .i64 nr)).heap[I i]? = some (.cells #[.pointer (some ⟨b i,0,none⟩),.int .i64 nr,.int .i64 (n (i * 2 + 1))] 134 (0,0)):=by
   rw [setCell_eq_setRow wt (I i) 1 _ _ _ _ HFi.out];exact setRow_heap wt (I i) _ _ _ _ HFi.out
  show _ = _
  rw [setCell_eq_setRow _ (I i) 2 _ _ _ _ h0];exact setRow_heap _ (I i) _ _ _ _ h0
 have HFb:=hide (HFt.out.band hi HIT.out ((Save.setCell _ _ _ _).put _ _))
 have HSb:=hide (HSt.out.trans (FStep.of_item hi ((Save.setCell wt (I i) 1 (.int .i64 nr)).put 2 (.int .i64 nl)) P b v10))
 have HRb:Hid (((wt.setCell ⟨I i,1,none⟩ (.int .i64 nr)).setCell ⟨I i,2,none⟩ (.int .i64 nl)).heap[R]? = some (.cells #[.int .i64 0,.int .i64 0,.bool false,.slice none 0 0] 223 (0,0))):=by
  show _ = _
  rw [((Save.setCell wt (I i) 1 (.int .i64 nr)).put 2 (.int .i64 nl)).block R hRl hRI];exact HRt.out
 have HRowb:=hide (HRowt.out.save ((Save.setCell wt (I i) 1 (.int .i64 nr)).put 2 (.int .i64 nl)) HFi.out (by decide))
 have HLR:Hid (w.heap.size≤R):=by have:=hF.out.bl.size;have:=HRe.out;show _≤_;omega
 generalize hWb:(wt.setCell ⟨I i,1,none⟩ (.int .i64 nr)).setCell ⟨I i,2,none⟩ (.int .i64 nl) = wb at *
 have HWb:=hide hWb
 clear hWb HFt HSt HRowt HEt HXt HRt HIT HFi
 have HSR:Hid (Save wb ((((wb.setCell ⟨R,0,none⟩ (.int .i64 p)).setCell ⟨R,1,none⟩ (.int .i64 vol)).setCell ⟨R,2,none⟩ (.bool true)).setCell ⟨R,3,none⟩ (.slice aF mF cF)) R):=(((Save.setCell _ R 0 (.int .i64 p)).put 1 (.int .i64 vol)).put 2 (.bool true)).put 3 (.slice aF mF cF)
 have HFz:=hide (HFb.out.aside (blkT HRb.out HFb.out.blk (by decide)) (blkT HRb.out HFb.out.pu (by decide)) (fun j hj=>⟨blkT HRb.out (HFb.out.it j hj) (by decide),blkT HRb.out (HFb.out.bk j hj).cell (by decide),rowT (HFb.out.bk j hj).row HRb.out (by decide)⟩) HLR.out HSR.out)
 have HSz:=hide (HSb.out.newer HSR.out (by rw [HRe.out];exact Nat.le_refl _))
 have HRowz:=hide (HRowb.out.save HSR.out HRb.out (by decide))
 have HRz:Hid (((((wb.setCell ⟨R,0,none⟩ (.int .i64 p)).setCell ⟨R,1,none⟩ (.int .i64 vol)).setCell ⟨R,2,none⟩ (.bool true)).setCell ⟨R,3,none⟩ (.slice aF mF cF)).heap[R]? = some (.cells #[.int .i64 p,.int .i64 vol,.bool true,.slice aF mF cF] 223 (0,0))):=set4_row HRb.out p vol true _
 simp only []
 go_wp2
 rw [HWb.out]
 generalize ((((wb.setCell ⟨R,0,none⟩ (.int .i64 p)).setCell ⟨R,1,none⟩ (.int .i64 vol)).setCell ⟨R,2,none⟩ (.bool true)).setCell ⟨R,3,none⟩ (.slice aF mF cF)) = Wf at *
 have z0:Wf.cell? ⟨R,0,none⟩ = some (.int .i64 p):=by rw [cell_of_row Wf _ 0 _ _ _ HRz.out];rfl
 have z1:Wf.cell? ⟨R,1,none⟩ = some (.int .i64 vol):=by rw [cell_of_row Wf _ 1 _ _ _ HRz.out];rfl
 have z2:Wf.cell? ⟨R,2,none⟩ = some (.bool true):=by rw [cell_of_row Wf _ 2 _ _ _ HRz.out];rfl
 have z3:Wf.cell? ⟨R,3,none⟩ = some (.slice aF mF cF):=by rw [cell_of_row Wf _ 3 _ _ _ HRz.out];rfl
 exact bodyPost_ret (v:=.tuple #[.agg #[.int .i64 p,.int .i64 vol,.bool true,.slice aF mF cF],.nilIface]) (by simp [results,Tryz.results133,go_sem,z0,z1,z2,z3]) rfl ⟨_,_,rfl,HFz.out,HSz.out,HRowz.out,HOKt.out⟩
end
structure FAll (L:Nat→List Cv.Lot) (pf n:Nat→Int) (wd h:Int):Prop where
 ok:Fs.FOk L pf
 band:∀ i,i < 3→Bd.bOk (n (i * 2)) (n (i * 2 + 1)) = true
 rule:Bd.rOk wd h = true
namespace Fl
def runL (L:Nat→List Cv.Lot) (i:Nat) (FF:List (Int × Int)):Nat→List Cv.Lot:=upd L i (Fs.restL FF (L i))
def runN (n:Nat→Int) (i:Nat) (wd h p vol:Int):Nat→Int:=upd (upd n (i * 2) (Bd.nR (n (i * 2)) (n (i * 2 + 1)) wd p vol)) (i * 2 + 1) (Bd.nL (n (i * 2)) (n (i * 2 + 1)) wd h p vol)
def runO (n:Nat→Int) (i:Nat) (wd p vol:Int):Bool:=Bd.nO (n (i * 2)) (n (i * 2 + 1)) wd p vol
end Fl
theorem next_band {r l wd h p v:Int} (hb:Bd.bOk r l = true) (hr:Bd.rOk wd h = true) (hp:0 < v→1≤p∧p≤1000):Bd.bOk (Bd.nR r l wd p v) (Bd.nL r l wd h p v) = true:=by
 simp only [Bd.bOk,Bd.rOk,Wi.withinB,Bool.and_eq_true,decide_eq_true_eq] at *
 unfold Bd.nR Bd.nL
 by_cases h1:0 < l
 ·rw [if_pos h1,if_pos h1]
  split
  ·have:=hp (by omega);omega
  ·omega
 ·rw [if_neg h1,if_neg h1]
  by_cases h2:0 < v
  ·have:=hp h2
   cases Bd.inB wd r p <;> simp [h2] <;> omega
  ·simp [h2];omega
theorem FAll.run {L:Nat→List Cv.Lot} {pf n:Nat→Int} {wd h:Int} (H:FAll L pf n wd h) {i:Nat} (hi:i < 3) {p vol:Int} (hw:Cv.Won (L i) (n (i * 2)) 1000 p vol) {L':Nat→List Cv.Lot} {pf':Nat→Int} (ho:Fs.FOk L' pf'):FAll L' pf' (Fl.runN n i wd h p vol) wd h:=by
 refine ⟨ho,fun j hj=>?_,H.rule⟩
 unfold Fl.runN
 by_cases e:j = i
 ·subst e
  rw [upd_same,upd_ne _ _ (by omega),upd_same]
  refine next_band (H.band j hj) H.rule (fun hv=>?_)
  rcases hw with ⟨_,e2,_⟩ | ⟨_,e2,e3,_⟩
  ·omega
  ·exact ⟨e2,e3⟩
 ·rw [upd_ne _ _ (by omega),upd_ne _ _ (by omega),upd_ne _ _ (by omega),upd_ne _ _ (by omega)]
  exact H.band j hj
section
variable {w W:World} {F P:Nat} {I b:Nat→Nat} {v:Nat→Value} {L:Nat→List Cv.Lot} {pf n:Nat→Int} {wd h:Int} {ev:Nat→Value}
theorem run_any (i:Nat) (hi:i < 3) (s p vol:Int) (hs:Ra.IsU s) (hF:PFl w W F P I b v L pf n wd h) (he:AEr w ev) (H:FAll L pf n wd h) (hwon:Cv.Won (L i) (n (i * 2)) 1000 p vol) :
  Calls Tryz.prog 133 #[.pointer (some ⟨F,0,none⟩),.int .i64 i,.int .u32 s] W fun e W'=>∃ vF v',e = .returned (.tuple #[resV p vol (Fl.runO n i wd p vol) vF,.nilIface]) ∧
   PFl w W' F P I b v' (Fl.runL L i (Fl.runF s (L i) (Fl.runO n i wd p vol) p vol)) (Fs.sett pf i p (L i) (Fl.runF s (L i) (Fl.runO n i wd p vol) p vol)) (Fl.runN n i wd h p vol) wd h∧FStep W W' P I b v v' ∧
   FRow W' vF (Fl.runF s (L i) (Fl.runO n i wd p vol) p vol)∧FAll (Fl.runL L i (Fl.runF s (L i) (Fl.runO n i wd p vol) p vol)) (Fs.sett pf i p (L i) (Fl.runF s (L i) (Fl.runO n i wd p vol) p vol)) (Fl.runN n i wd h p vol) wd h:=by
 have hv0:=(hwon.range (by decide)).2.2
 by_cases hc:Fl.runO n i wd p vol = true∧0 < vol
 ·have e:Fl.runF s (L i) (Fl.runO n i wd p vol) p vol = Ra.fills s (L i) p vol:=by unfold Fl.runF;rw [if_pos hc]
  rw [e,hc.1]
  refine (run_open i hi s p vol hs hF he H.ok (H.band i hi) H.rule hwon hc.1 hc.2).mono ?_
  rintro e W' ⟨vF,v',rfl,h1,h2,h3,h4⟩
  exact ⟨vF,v',rfl,h1,h2,h3,H.run hi hwon h4⟩
 ·have e:Fl.runF s (L i) (Fl.runO n i wd p vol) p vol = []:=by unfold Fl.runF;rw [if_neg hc]
  have hst:Bd.nO (n (i * 2)) (n (i * 2 + 1)) wd p vol = false∨vol = 0:=by
   cases ho:Bd.nO (n (i * 2)) (n (i * 2 + 1)) wd p vol with
   | false=>exact .inl rfl
   | true=>exact .inr (by have:¬ 0 < vol:=fun hv=>hc ⟨ho,hv⟩;omega)
  have e2:Fl.runL L i [] = L:=by unfold Fl.runL;rw [Fs.rest_nil (H.ok.bk i hi).oks,upd_self]
  rw [e,e2,Fs.sett_nil]
  refine (run_still i hi s p vol hF he H.ok (H.band i hi) H.rule hwon hst).mono ?_
  rintro e W' ⟨rfl,h1,h2⟩
  exact ⟨_,v,rfl,h1,h2,.inl ⟨rfl,none,0,rfl⟩,H.run hi hwon H.ok⟩
end
theorem ix89_0 (a b c:Option Addr) (w:World):(Instr.index 126 (.agg #[.pointer a,.pointer b,.pointer c]) (.int .i64 0)).run Tryz.prog w = .ok (.pointer a) w:=by kernel_rfl
theorem ix89_1 (a b c:Option Addr) (w:World):(Instr.index 126 (.agg #[.pointer a,.pointer b,.pointer c]) (.int .i64 1)).run Tryz.prog w = .ok (.pointer b) w:=by kernel_rfl
theorem ix89_2 (a b c:Option Addr) (w:World):(Instr.index 126 (.agg #[.pointer a,.pointer b,.pointer c]) (.int .i64 2)).run Tryz.prog w = .ok (.pointer c) w:=by kernel_rfl
theorem index89 (I:Nat→Nat) {i:Nat} (hi:i < 3) (w:World):(Instr.index 126 (.agg #[.pointer (some ⟨I 0,0,none⟩),.pointer (some ⟨I 1,0,none⟩),.pointer (some ⟨I 2,0,none⟩)]) (.int .i64 i)).run Tryz.prog w = .ok (.pointer (some ⟨I i,0,none⟩)) w:=by
 match i,hi with
 | 0,_=>exact ix89_0 _ _ _ w
 | 1,_=>exact ix89_1 _ _ _ w
 | 2,_=>exact ix89_2 _ _ _ w
def DropAns (w W W':World) (e:Ending) (F P:Nat) (I b:Nat→Nat) (v:Nat→Value) (L:Nat→List Cv.Lot) (pf n:Nat→Int) (wd h c:Int):Prop:=∃ u v',e = .returned u∧W'.ownsRow W.heap.size 137 5 u (Fl.dO c L 3).length (flat (Fl.dO c L 3))∧PFl w W' F P I b v' (Fl.dL c L 3) (Fl.dF c L pf 3) n wd h∧FStep W W' P I b v v'∧Fs.FOk (Fl.dL c L 3) (Fl.dF c L pf 3)
structure Gone (W0 W:World) (b:Nat→Nat) (v:Nat→Value) (u:Value) (out:List Cv.Lot):Prop where
 row:W.ownsRow W0.heap.size 137 5 u out.length (flat out)
 ap:∀ j,j < 3→∀ k,u.ownBlock = some k→(v j).ownBlock≠some k
section
variable {w W0 W W':World} {F P:Nat} {I b:Nat→Nat} {v v':Nat→Value} {L:Nat→List Cv.Lot} {pf n:Nat→Int} {wd h:Int} {ev:Nat→Value} {u:Value} {out:List Cv.Lot}
theorem Gone.later (H:Gone W0 W b v u out) (hb:Below W.heap.size W W'):Gone W0 W' b v u out:=⟨row_later H.row hb,H.ap⟩
theorem Gone.act (H:Gone W0 W b v u out) (hF:PFl w W F P I b v L pf n wd h) (hs:FStep W W' P I b v v'):Gone W0 W' b v' u out:=by
 have hlt:=H.row.lt
 refine ⟨⟨H.row.1,?_⟩,fun j hj k hk e=>?_⟩
 ·rcases H.row.2 with hn | ⟨g,cap,cur,e,hg,hgg,rest⟩
  ·exact .inl hn
  ·have hu:u.ownBlock = some g:=by rw [e];rfl
   refine .inr ⟨g,cap,cur,e,hg,?_,rest⟩
   rw [hs.keep g (lt_of_block hgg) (blkT hgg hF.pu (by decide)) (fun j hj=>⟨blkT hgg (hF.it j hj) (by decide),blkT hgg (hF.bk j hj).cell (by decide),H.ap j hj g hu⟩)]
   exact hgg
 ·rcases hs.new j hj k e with h1 | h1
  ·exact H.ap j hj k hk h1
  ·have:=(hlt k hk).2;omega
theorem PFl.grow (hF:PFl w W F P I b v L pf n wd h) (H:Gone W0 W b v u out) (hW0:w.heap.size≤W0.heap.size) (hg:W.grownBy W' u.ownBlock):PFl w W' F P I b v L pf n wd h:=by
 have hlt:=H.row.lt
 have ho:Only W W' none u.ownBlock:=Only.of_grown hg none
 have hk:∀ {q:Nat} {a:Array Value} {T:TypeId},W.heap[q]? = some (.cells a T (0,0))→T≠137→W'.heap[q]? = some (.cells a T (0,0)):=fun {q a T} hq hT=>by
  rw [ho.block q (lt_of_block hq) (by simp) (fun e=>rowT H.row hq hT e.symm)];exact hq
 refine ⟨hk hF.blk (by decide),fun i hi=>hk (hF.it i hi) (by decide),fun i hi=>?_,hF.neI,hF.ne,hF.ap,hk hF.pu (by decide),hF.lo,hF.lop,hF.loI,hF.bl.trans (ho.below hF.bl.size (fun k e=>by cases e) (fun k e=>Nat.le_trans hW0 (hlt k e).1))⟩
 exact (hF.bk i hi).only ho (by simp) (fun e=>rowT H.row (hF.bk i hi).cell (by decide) e.symm) (fun _ _=>by simp) (fun k hk e=>H.ap i hi k e.symm hk)
theorem FStep.grown {W W1 W2:World} {P:Nat} {I b:Nat→Nat} {v v1:Nat→Value} (h:FStep W W1 P I b v v1) {r:Option Nat} (hg:W1.grownBy W2 r) (hr:∀ g,r = some g→W.heap.size≤g):FStep W W2 P I b v v1 :=
 ⟨hg.os.trans h.os,hg.tape.trans h.tape,hg.output.trans h.output,Nat.le_trans h.size hg.size,fun k hk h1 h2=>by rw [hg.block k (Nat.lt_of_lt_of_le hk h.size) (fun e=>by have:=hr k e.symm;omega)];exact h.keep k hk h1 h2,h.new⟩
set_option maxHeartbeats 1000000 in
theorem drop_any (c:Int) (hF:Hid (PFl w W F P I b v L pf n wd h)) (he:Hid (AEr w ev)) (hok:Hid (Fs.FOk L pf)) :
  Calls Tryz.prog 128 #[.pointer (some ⟨F,0,none⟩),.int .i64 c] W fun e W'=>DropAns w W W' e F P I b v L pf n wd h c:=by
 obtain ⟨i0,z0,hi,hz0,hz1,hz2,hz3⟩:=info110
 have Hi:=hide hi;have Hz0:=hide hz0;have Hz1:=hide hz1;have Hz2:=hide hz2;have Hz3:=hide hz3
 clear hi hz0 hz1 hz2 hz3
 have p0:W.cell? ⟨F,2,none⟩ = some (.pointer (some ⟨I 0,0,none⟩)):=hF.out.cellI (i:=0) (by decide)
 have p1:W.cell? ⟨F,3,none⟩ = some (.pointer (some ⟨I 1,0,none⟩)):=hF.out.cellI (i:=1) (by decide)
 have p2:W.cell? ⟨F,4,none⟩ = some (.pointer (some ⟨I 2,0,none⟩)):=hF.out.cellI (i:=2) (by decide)
 have HDL:=hide (Fl.dO_len c L (fun i hi=>(hok.out.bk i hi).len))
 have HW0:Hid (w.heap.size≤W.heap.size):=hF.out.bl.size
 go_enter Tryz.func128,Tryz.ntmps128
 go_wp2
 go_loopw [5,14] (fun u cc wr=>∃ (i:Nat) (vv:Nat→Value),i≤3∧cc = .int .i64 i∧PFl w wr F P I b vv (Fl.dL c L i) (Fl.dF c L pf i) n wd h∧FStep W wr P I b v vv∧Gone W wr b vv u (Fl.dO c L i)∧Fs.FOk (Fl.dL c L i) (Fl.dF c L pf i)) (fun _ cc _=>3 - (intOf cc).toNat)
 case atStart=>exact ⟨0,v,by omega,rfl,hF.out,FStep.refl _ _ _ _ _,⟨⟨rfl,.inl ⟨rfl,rfl⟩⟩,fun j hj k hk=>by cases hk⟩,hok.out⟩
 case round =>
  obtain ⟨i,vv,hi,rfl,hf,hs,hg,ho⟩:=hrel
  obtain ⟨ug,hug⟩:∃ ug,ug = u5:=⟨_,rfl⟩
  subst hug
  obtain ⟨wo,hwo⟩:∃ wo,wo = wr:=⟨_,rfl⟩
  subst hwo
  have HFi:=hide hf;have HSi:=hide hs;have HGi:=hide hg;have HOi:=hide ho
  clear hf hs hg ho p0 p1 p2
  by_cases hi3:i < 3
  ·have hki:(i:Int) < 3:=by omega
   have ix:=fun W=>index89 I hi3 W
   have hLi:=Fl.dL_at c L i i (Nat.le_refl _)
   have cb:=HFi.out.cellB hi3
   have hlots:=lots_any (b i) w.heap.size (vv i) (Fl.dL c L i i) wo (HFi.out.bk i hi3) (HOi.out.bk i hi3).len
   rw [hLi] at hlots
   have HLT:=hide hlots
   have HON:=hide (hok.out.bk i hi3).once
   have HLEN:=hide (hok.out.bk i hi3).len
   have HSTART:Hid (upd (Fl.dL c L i) i (Fl.keepL c (L i) 0) = Fl.dL c L i):=by show _ = _;rw [Fl.keep_zero,← hLi,upd_self]
   have HLi:=hide hLi
   clear hlots hLi
   go_wp2_with fail
   refine HLT.out.mono ?_
   rintro e w2 ⟨vl,rfl,hrow,hb2⟩
   have HF2:=hide (HFi.out.later hb2)
   have HS2:=hide (HSi.out.below hb2)
   have HG2:=hide (HGi.out.later hb2)
   have hlot:=lots_row hrow
   have HZ:Hid (wo.heap.size≤w2.heap.size):=hb2.size
   have HROW:=hide hrow
   have HFr:=hide HFi.out
   have HUL:Hid (∀ g,ug.ownBlock = some g→g < wo.heap.size):=fun g hg=>(HGi.out.row.lt g hg).2
   clear hrow hb2 HLT cb HSi HGi
   obtain ⟨la,lc,hvl⟩:∃ la lc,vl = .slice la (L i).length lc:=by
    rcases hlot with ⟨e,a,c,rfl⟩ | ⟨g,o,c,rfl,_⟩
    ·exact ⟨a,c,by rw [e];rfl⟩
    ·exact ⟨_,_,rfl⟩
   subst hvl
   obtain ⟨m,hm⟩:∃ m,(L i).length = m:=⟨_,rfl⟩
   rw [hm] at HROW
   rw [hm]
   have hm60:m≤60:=by rw [← hm];exact HLEN.out
   have HM:=hide hm
   clear hlot hm
   have HRLT:Hid (∀ g,(Value.slice la m lc).ownBlock = some g→g < w2.heap.size):=fun g hg=>(HROW.out.lt g hg).2
   simp only []
   go_wp2_with fail
   go_loopw [5,24] (fun u cc wl=>∃ (k:Nat) (vk:Nat→Value) (fk:Nat→Int),k≤m∧cc = .int .i64 k∧fk = Fl.freeAll i (Fl.dF c L pf i) (Fl.outL c (L i) k)∧PFl w wl F P I b vk (upd (Fl.dL c L i) i (Fl.keepL c (L i) k)) fk n wd h∧FStep W wl P I b v vk∧(∀ j,j < 3→∀ g,(vk j).ownBlock = some g→(vv j).ownBlock = some g∨w2.heap.size≤g)∧Gone W wl b vk u (Fl.dO c L i++Fl.outL c (L i) k)∧Fs.FOk (upd (Fl.dL c L i) i (Fl.keepL c (L i) k)) fk∧wl.ownsRow wo.heap.size 137 5 (.slice la m lc) m (flat (L i))∧(∀ g,(Value.slice la m lc).ownBlock = some g→u.ownBlock≠some g)∧w2.heap.size≤wl.heap.size) (fun _ cc _=>m - (intOf cc).toNat)
   case atStart =>
    refine ⟨0,vv,_,Nat.zero_le _,rfl,rfl,?_,HS2.out,fun j hj g hg=>.inl hg,?_,?_,HROW.out,?_,Nat.le_refl _⟩
    ·rw [HSTART.out];exact HF2.out
    ·rw [show Fl.outL c (L i) 0 = [] from rfl,List.append_nil];exact HG2.out
    ·rw [HSTART.out];exact HOi.out
    ·intro g hg e
     have h1:=(HROW.out.lt g hg).1
     have h2:=HUL.out g e
     omega
   case round =>
    obtain ⟨k,vk,fk,hk,rfl,hfk,hf,hs,hs2,hg,ho,hrow,hap,hsz⟩:=hrel
    obtain ⟨uk,huk⟩:∃ uk,uk = u5:=⟨_,rfl⟩
    subst huk
    obtain ⟨wl,hwl⟩:∃ wl,wl = wr:=⟨_,rfl⟩
    subst hwl
    have HFK:=hide hfk;have HFk:=hide hf;have HSk:=hide hs;have HS2k:=hide hs2;have HGk:=hide hg;have HOk:=hide ho;have HRk:=hide hrow;have HAPk:=hide hap;have HSZk:=hide hsz
    clear hfk hf hs hs2 hg ho hrow hap hsz HF2 HS2 HG2 HROW HUL
    by_cases hlt:k < m
    ·have hkm:(k:Int) < m:=by omega
     have hkl:k < (L i).length:=by rw [HM.out];exact hlt
     obtain ⟨gl,hla⟩:∃ gl,la = some ⟨gl,0,none⟩:=by
      rcases HRk.out.2 with ⟨e,_⟩ | ⟨g,cap,cur,e,_⟩
      ·simp at e;omega
      ·simp at e;exact ⟨g,e.1⟩
     subst hla
     obtain ⟨c0,c1,c2,c3,c4⟩:=(lots_of_row HRk.out) k hkl
     rw [show 0 + k * 5 = k * 5 by omega] at c0 c1 c2 c3 c4
     have HMINE:=hide (fun (hc:(Cv.nth (L i) k).ow = c)=>Fl.keep_mine HON.out hkl hc)
     have HOTH:=hide (fun (hc:(Cv.nth (L i) k).ow≠c)=>Fl.keep_other hkl hc)
     have HONE:=hide (fun (hc:(Cv.nth (L i) k).ow = c)=>Fl.drop_one hi3 HOk.out HON.out hkl hc)
     generalize Cv.nth (L i) k = X at *
     obtain ⟨x0,x1,x2,x3,x4⟩:=X
     simp only [] at c0 c1 c2 c3 c4 HMINE HOTH HONE
     obtain ⟨wa,hwa⟩:∃ wa,wl.alloc (.cells #[.int .i64 x0,.int .i64 x1,.int .i64 x2,.int .i64 x3,.int .i64 x4] 137) = wa:=⟨_,rfl⟩
     obtain ⟨DD,hDD⟩:∃ DD,wl.heap.size = DD:=⟨_,rfl⟩
     have hba:Below wl.heap.size wl wa:=by rw [← hwa];exact (Below.refl _ _).alloc (Nat.le_refl _) _
     have HXa:Hid (wa.heap[DD]? = some (.cells #[.int .i64 x0,.int .i64 x1,.int .i64 x2,.int .i64 x3,.int .i64 x4] 137 (0,0))):=by show _ = _;rw [← hwa,← hDD];exact heap_alloc_new _ _
     have HFa:=hide (HFk.out.later hba)
     have HSa:=hide (HSk.out.below hba)
     have HGa:=hide (HGk.out.later hba)
     have HRa:=hide (row_later HRk.out hba)
     have HFRD:=hide (HFk.out.fresh (q:=DD) (by omega))
     have HGD:Hid (uk.ownBlock≠some DD):=fun e=>by have:=(HGk.out.row.lt DD e).2;omega
     have HSZ:Hid (w2.heap.size≤wa.heap.size):=Nat.le_trans HSZk.out hba.size
     have HWA:=hide hwa;have HDe:=hide hDD
     clear hba hwa hDD HFk HSk HGk HRk
     by_cases hc:x1 = c
     ·obtain ⟨hM1,hM2,hM3,hM4⟩:=HMINE.out hc
      have hlen:=(HOk.out.bk i hi3).len
      rw [upd_same] at hlen
      have hrem:=remove_act i hi3 ⟨x0,x1,x2,x3,x4⟩ HFa.out he.out HOk.out.good (by show _≤_;rw [upd_same];exact hlen)
      rw [upd_same,upd_upd,hM1] at hrem
      have HREM:=hide hrem
      unfold lotV at HREM
      simp only [] at HREM
      have HM2:=hide hM2
      clear hM1 hM2 hM3 hM4 hlen hrem HMINE HOTH
      subst hc
      go_wp2_with fail
      rw [HWA.out,HDe.out]
      refine HREM.out.mono ?_
      rintro e wb ⟨rfl,vb,hfb,hsb⟩
      have HSb:=hide (HSa.out.trans hsb)
      have HNWb:Hid (∀ j,j < 3→∀ g,(vb j).ownBlock = some g→(vv j).ownBlock = some g∨w2.heap.size≤g):=fun j hj g hg=>by
       rcases hsb.new j hj g hg with h5 | h5
       ·exact HS2k.out j hj g h5
       ·exact .inr (Nat.le_trans HSZ.out h5)
      have HGb:=hide (HGa.out.act HFa.out hsb)
      have HXb:Hid (wb.heap[DD]? = some (.cells #[.int .i64 x0,.int .i64 x1,.int .i64 x2,.int .i64 x3,.int .i64 x4] 137 (0,0))):=by show _ = _;rw [hsb.keep DD (lt_of_block HXa.out) HFRD.out.2.1 HFRD.out.2.2];exact HXa.out
      have hrb:wb.ownsRow wo.heap.size 137 5 (.slice (some ⟨gl,0,none⟩) m lc) m (flat (L i)):=by
       refine ⟨HRa.out.1,?_⟩
       rcases HRa.out.2 with hn | ⟨g,cap,cur,e,hg,hgg,rest⟩
       ·exact .inl hn
       ·obtain ⟨_,f2,f3⟩:=HFr.out.fresh hg
        refine .inr ⟨g,cap,cur,e,hg,?_,rest⟩
        rw [hsb.keep g (lt_of_block hgg) f2 (fun j hj=>⟨(f3 j hj).1,(f3 j hj).2.1,fun e2=>?_⟩)]
        ·exact hgg
        ·rcases HS2k.out j hj g e2 with h5 | h5
         ·exact (f3 j hj).2.2 h5
         ·have:=HRLT.out g (by rw [e];rfl);omega
      have HSB2:Hid (wa.heap.size≤wb.heap.size):=hsb.size
      have HRb:=hide hrb;have HFb:=hide hfb
      clear hfb hsb hrb HREM HFa HSa HGa HXa HRa
      have k0:wb.cell? ⟨DD,0,none⟩ = some (.int .i64 x0):=by rw [cell_of_row wb _ 0 _ _ _ HXb.out];rfl
      have k1:wb.cell? ⟨DD,1,none⟩ = some (.int .i64 x1):=by rw [cell_of_row wb _ 1 _ _ _ HXb.out];rfl
      have k2:wb.cell? ⟨DD,2,none⟩ = some (.int .i64 x2):=by rw [cell_of_row wb _ 2 _ _ _ HXb.out];rfl
      have k3:wb.cell? ⟨DD,3,none⟩ = some (.int .i64 x3):=by rw [cell_of_row wb _ 3 _ _ _ HXb.out];rfl
      have k4:wb.cell? ⟨DD,4,none⟩ = some (.int .i64 x4):=by rw [cell_of_row wb _ 4 _ _ _ HXb.out];rfl
      have HOL:Hid ((Fl.dO x1 L i++Fl.outL x1 (L i) k).length≤400):=by
       have h1:=HDL.out i (by omega)
       have h2:=List.length_filter_le (fun x:Cv.Lot=>x.ow == x1) ((L i).take k)
       have h3:=List.length_take_le k (L i)
       have h4:=HLEN.out
       show _≤_
       unfold Fl.outL
       rw [List.length_append]
       omega
      generalize hOO:Fl.dO x1 L i++Fl.outL x1 (L i) k = OO at *
      have HOO:=hide hOO
      clear hOO
      simp only []
      go_wp2_with (at_builtin;refine wpList_append_own_at _ rfl _ _ 60 rfl W.heap.size 137 i0 z0 5 40 Tryz.underlying60 Hi.out Hz0.out Hz1.out Hz2.out Hz3.out (by decide) _ _ _ rfl (HGb.out.row.alloc _) ⟨wb.heap.size,0,none⟩ 1 1 (lotCells ⟨x0,x1,x2,x3,x4⟩) rfl rfl ?c1 ?c2 ?c3 ?c4 ?c5 ?_)
      case c1=>exact fun j y hj=>cell_new5 wb ⟨x0,x1,x2,x3,x4⟩ 137 _ rfl j y hj
      case c2 => exact fun y hu => by
                      simp only [lotCells,List.mem_cons,List.not_mem_nil,or_false] at hu
                      rcases hu with rfl | rfl | rfl | rfl | rfl <;> rfl
      case c3=>have:=HOL.out;unfold maxLen;omega
      case c4=>have:=HOL.out;omega
      case c5=>have:=HSb.out.size;simp;omega
      intro ve we hown' hgrow _ hloc
      have hb0:Below wb.heap.size wb (wb.alloc (.cells #[.int .i64 x0,.int .i64 x1,.int .i64 x2,.int .i64 x3,.int .i64 x4] 137)):=(Below.refl _ _).alloc (Nat.le_refl _) _
      have hfe:=(HFb.out.later hb0).grow (HGb.out.later hb0) HW0.out hgrow
      have hse:=(HSb.out.below hb0).grown hgrow (fun g hg=>(HGb.out.row.lt g hg).1)
      have hgo:Gone W we b vb ve (OO++[Cv.Lot.mk x0 x1 x2 x3 x4]):=by
       refine ⟨?_,fun j hj g hg e=>?_⟩
       ·rw [show flat (OO++[Cv.Lot.mk x0 x1 x2 x3 x4]) = flat OO++lotCells ⟨x0,x1,x2,x3,x4⟩ by simp [flat],List.length_append]
        exact hown'
       ·have hlt2:=((HFb.out.bk j hj).rowLt g e).2
        rcases hloc with h5 | h5
        ·rw [h5] at hg;exact HGb.out.ap j hj g hg e
        ·rw [h5] at hg
         simp at hg
         omega
      have hre:we.ownsRow wo.heap.size 137 5 (.slice (some ⟨gl,0,none⟩) m lc) m (flat (L i)):=by
       have hra:=row_later HRb.out hb0
       refine ⟨hra.1,?_⟩
       rcases hra.2 with hn | ⟨g,cap,cur,e,hg,hgg,rest⟩
       ·exact .inl hn
       ·exact .inr ⟨g,cap,cur,e,hg,by rw [hgrow.block g (lt_of_block hgg) (fun e2=>HAPk.out g (by rw [e];rfl) e2.symm)];exact hgg,rest⟩
      have hape:∀ g,(Value.slice (some ⟨gl,0,none⟩) m lc).ownBlock = some g→ve.ownBlock≠some g:=fun g hg e=>by
       rcases hloc with h5 | h5
       ·rw [h5] at e;exact HAPk.out g hg e
       ·rw [h5] at e
        have h6:=HRLT.out g hg
        have h7:=HSZ.out
        have h8:=HSB2.out
        simp at e
        omega
      have hsze:w2.heap.size≤we.heap.size:=by have:=HSZ.out;have:=HSB2.out;have:=hb0.size;have:=hgrow.size;omega
      have HFe:=hide hfe;have HSe:=hide hse;have HGe:=hide hgo;have HRe:=hide hre;have HAe:=hide hape;have HZe:=hide hsze
      clear hb0 hfe hse hgo hre hape hsze hown' hgrow hloc k0 k1 k2 k3 k4 HFb HSb HGb HRb HXb
      go_wp2
      refine ⟨⟨k + 1,vb,_,by omega,by go_num,?_,HFe.out,HSe.out,HNWb.out,?_,HONE.out (by simp),HRe.out,HAe.out,HZe.out⟩,by simp [intOf];omega⟩
      ·rw [HFK.out,HM2.out]
       unfold Fl.freeAll
       rw [List.foldl_append]
       rfl
      ·rw [HM2.out,← List.append_assoc,HOO.out]
       exact HGe.out
     ·obtain ⟨h1,h2⟩:=HOTH.out hc
      have hcb:(x1 == c) = false:=by simpa using hc
      rw [← h1] at HFa HOk
      rw [← h2] at HGa HFK
      go_wp2
      rw [HWA.out]
      exact ⟨⟨k + 1,vk,fk,by omega,by go_num,HFK.out,HFa.out,HSa.out,HS2k.out,HGa.out,HOk.out,HRa.out,HAPk.out,HSZ.out⟩,by simp [intOf];omega⟩
    ·have hkm:¬ (k:Int) < m:=by omega
     have e1:Fl.keepL c (L i) k = (L i).filter (fun x=>!(x.ow == c)):=Fl.keep_all c (by rw [HM.out];omega)
     have e2:Fl.outL c (L i) k = (L i).filter (fun x=>x.ow == c):=Fl.out_all c (by rw [HM.out];omega)
     rw [e1] at HFk HOk
     rw [e2] at HFK HGk
     go_wp2
     refine ⟨⟨i + 1,vk,by omega,by go_num,?_,HSk.out,HGk.out,?_⟩,by simp [intOf];omega⟩
     ·have:=HFk.out;rw [HFK.out] at this;exact this
     ·have:=HOk.out;rw [HFK.out] at this;exact this
  ·have hki:¬ (i:Int) < 3:=by omega
   obtain rfl:i = 3:=by omega
   go_wp2
   go_ret
   exact ⟨_,_,rfl,HGi.out.row,HFi.out,HSi.out,HOi.out⟩
end
end Go.Proofs.YtidahfhingdlmaaGreatDoor
namespace Go.Proofs.YtidahfhingdlmaaGreatDoor
namespace Fl
open Cv Bk Ra Pu Fu Fs
structure Fits (cash stock:Int):Prop where
 c0:0≤cash
 c1:cash≤1073741824
 s0:0≤stock
 s1:stock≤100000
theorem gift_high {cash stock:Int}:∀ k j,k * 8≤j→gift cash stock k j = 0
 | 0,_,_=>rfl
 | k + 1,j,h=>by
  have ih:=gift_high (cash:=cash) (stock:=stock) k j (by omega)
  show giveF _ _ j = 0
  unfold giveF
  split
  ·rw [add_ne _ _ (by show j≠(k:Int).toNat * 8 + 4;omega),add_ne _ _ (by show j≠(k:Int).toNat * 8 + 3;omega),add_ne _ _ (by show j≠(k:Int).toNat * 8 + 2;omega),add_ne _ _ (by show j≠(k:Int).toNat * 8;omega),ih]
  ·exact ih
theorem gift_zero {cash stock:Int} (h:Fits cash stock) (k:Nat) (hk:k < 6):giveC (gift cash stock k) ⟨k,cash,stock,stock,stock⟩ = 0:=by
 have e0:=gift_high (cash:=cash) (stock:=stock) k (k * 8) (Nat.le_refl _)
 have e2:=gift_high (cash:=cash) (stock:=stock) k (k * 8 + 2) (by omega)
 have e3:=gift_high (cash:=cash) (stock:=stock) k (k * 8 + 3) (by omega)
 have e4:=gift_high (cash:=cash) (stock:=stock) k (k * 8 + 4) (by omega)
 have hc0:=h.c0;have hc1:=h.c1;have hs0:=h.s0;have hs1:=h.s1
 unfold giveC
 rw [if_pos,if_neg]
 ·simp only [Gift.over,Int.toNat_natCast,e0,e2,e3,e4]
  simp
  omega
 ·simp only [Gift.fine,Gift.neg,Wi.withinB]
  simp
  omega
theorem gift_held {cash stock:Int}:∀ k j,IsHeld j→gift cash stock k j = 0
 | 0,_,_=>rfl
 | k + 1,j,h=>by
  have ih:=gift_held (cash:=cash) (stock:=stock) k j h
  obtain ⟨c,hc,hcj⟩:=h
  show giveF _ _ j = 0
  unfold giveF
  split
  ·rw [add_ne _ _ (by show j≠(k:Int).toNat * 8 + 4;rcases hcj with e | ⟨m,hm,e⟩ <;> omega),add_ne _ _ (by show j≠(k:Int).toNat * 8 + 3;rcases hcj with e | ⟨m,hm,e⟩ <;> omega),add_ne _ _ (by show j≠(k:Int).toNat * 8 + 2;rcases hcj with e | ⟨m,hm,e⟩ <;> omega),add_ne _ _ (by show j≠(k:Int).toNat * 8;rcases hcj with e | ⟨m,hm,e⟩ <;> omega),ih]
  ·exact ih
theorem gift_sums {cash stock:Int} (h:Fits cash stock):∀ k,k≤6→cashes (gift cash stock k) 6 = k * cash∧∀ j,j < 3→stocks (gift cash stock k) j 6 = k * stock
 | 0,_=>⟨by simp [gift,cashes],fun j _=>by simp [gift,stocks]⟩
 | k + 1,hk=>by
  obtain ⟨h1,h2⟩:=gift_sums h k (by omega)
  obtain ⟨g1,g2⟩:=give_sums (gift_zero h k (by omega))
  have ec:((k + 1:Nat):Int) * cash = k * cash + cash:=by rw [show ((k + 1:Nat):Int) = (k:Int) + 1 by omega,Int.add_mul,Int.one_mul]
  have es:((k + 1:Nat):Int) * stock = k * stock + stock:=by rw [show ((k + 1:Nat):Int) = (k:Int) + 1 by omega,Int.add_mul,Int.one_mul]
  refine ⟨by show cashes (giveF _ _) 6 = _;rw [g1,h1,ec],fun j hj=>?_⟩
  show stocks (giveF _ _) j 6 = _
  rw [g2 j hj,h2 j hj,es]
  have:j = 0∨j = 1∨j = 2:=by omega
  rcases this with rfl | rfl | rfl <;> rfl
theorem new_all {wd h ref cash stock:Int} (hr:Bd.rOk wd h = true) (hf:Wi.withinB ref 1 1000 = true) (H:Fits cash stock):FAll (fun _=>[]) (gift cash stock 6) (bands ref) wd h:=by
 obtain ⟨g1,g2⟩:=gift_sums H 6 (Nat.le_refl _)
 have hc1:=H.c1;have hs1:=H.s1
 refine ⟨⟨fun _ _=>Bk.good_nil,good_gift cash stock 6,held_start _ fun j hj=>gift_held 6 j hj,by rw [g1];omega,fun k hk=>by rw [g2 k hk];omega⟩,fun i hi=>?_,hr⟩
 unfold Bd.bOk bands
 rw [if_pos (by omega),if_neg (by omega),hf]
 rfl
end Fl
end Go.Proofs.YtidahfhingdlmaaGreatDoor
namespace Go.Proofs.YtidahfhingdlmaaGreatDoor
open Go.RowKit
set_option maxRecDepth 100000
section
variable {ev:Nat→Value}
end
end Go.Proofs.YtidahfhingdlmaaGreatDoor
