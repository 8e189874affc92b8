/- Own. -/
import Derived.Test.YtjolccidheflpaaGreatDoorU43
import Derived.Test.YtjolccidheflpaaGreatDoorU35
namespace Go.Proofs.YtjolccidheflpaaGreatDoor
set_option maxHeartbeats 8000000
open Go.RowKit
set_option maxRecDepth 100000
theorem alX (base p:Nat) (v:Value) (l:List UInt8) (cut:Bool) (left:Int) (w:World) (hd:dI w base p v l cut left) (hl:l.length<=1100000) :
  Calls Tryz.prog 61 #[.pointer (some ⟨p,0,none⟩)] w fun e w'=>∃ Pf v' ts r,e=.returned (.tuple #[Pf,.nilIface])/\bm.zb l ts r/\dI w' base p v' (bm.recs ts) false 0/\v'.ownBlock=v.ownBlock/\aJ w w' (fun k=>k=p):=by
 have oD:dI ((w.setCell ⟨p,1,none⟩ (.bool false)).setCell ⟨p,2,none⟩ (.int .i64 0)) base p v l false 0 :=
  ⟨ai1 hd.cell,(hd.row.setCell hd.cell _).setCell (heap_setCell_same w p 1 _ 117 (.bool false) hd.cell) _,hd.lo⟩
 have ht1:aJ w ((w.setCell ⟨p,1,none⟩ (.bool false)).setCell ⟨p,2,none⟩ (.int .i64 0)) (fun k=>k=p):=by
  have:=((bRq 0 w).setCell (p:=⟨p,1,none⟩) (Nat.zero_le _) (.bool false)).setCell (p:=⟨p,2,none⟩) (Nat.zero_le _) (.int .i64 0)
  refine⟨this.os,this.tape,this.output,this.size,fun k hk hn=>?_⟩;rw[(Lib.grownBy_setCell _ _ _ _).block k (by simpa using hk) (by simp;exact hn),(Lib.grownBy_setCell _ _ _ _).block k hk (by simp;exact hn)]
 have HD1:=hDq oD;have HT1:=hDq ht1;clear oD ht1;have Hp:=hDq hd.cell;go_enter Tryz.func61,Tryz.ntmps61
 go_wp2_with fail
 refine(ai0 p v cut left w Hp.out).mono ?_;rintro e w1 ⟨rfl,rfl⟩;generalize (w.setCell ⟨p,1,none⟩ (.bool false)).setCell ⟨p,2,none⟩ (.int .i64 0)=w1 at *
 go_wp2_with fail
 refine(WQ base p l false 0 w1 ⟨HD1.out.lo,v,HD1.out.cell,HD1.out.row⟩).mono ?_;rintro e w2 ⟨rfl,rfl⟩
 go_wp2_with fail
 refine(WV (ba l) _ (by rw[ND];exact hl)).mono ?_;rintro e w3 ⟨v3,ts,r,rfl,hread,hst,hb3⟩;rw[WI]at hread;have ml:=hDq hread;have HT3:=hDq (HT1.out.trans (aJ.of_below hb3 (fun _=>False)) (fun k h=>h.elim));have yo:Hid (w3.heap[p]?=some (.cells #[v,.bool false,.int .i64 0] 117 (0,0))):=by rw[hb3.block p (lBq HD1.out.cell)];exact HD1.out.cell
 have HR3:=hDq (HD1.out.row.turned (aJ.of_below hb3 (fun _=>False)) (fun _ _ h=>h));have hn:(bm.recs ts).length<=l.length:=by
  have:=congrArg List.length hread.1
  rw[lAq]at this;omega
 clear hread hst hb3;obtain⟨g3,B6,hv3,hc3⟩:=HR3.out.form;rw[iM]at hv3 hc3;subst hv3;obtain⟨jg,k1,k2,kf,apu⟩:=qH yo.out;generalize hq:(bm.recs ts).length=q at *;have apv:q<=B6:=by omega
 have abL:(q:Int)<=B6:=by omega
 simp only[];go_wp2;go_ret2;have hrow:dN w3 base (.slice (some ⟨g3,0,none⟩) q B6) (ints (bm.recs ts)):=by
  have h:=HR3.out.take q (by rw[iM];exact hn);rw[<- WH,show l.take q=bm.recs ts by rw[ml.out.1,<- hq,List.take_left]]at h;exact h
 refine⟨v3,_,ts,r,rfl,ml.out,⟨heap_setCell_same w3 p 0 _ 117 _ yo.out,hrow.setCell yo.out _,HD1.out.lo⟩,rfl,?_⟩;refine HT3.out.trans (S1:=fun k=>k=p) ?_ (fun k h=>.inl h)
 have:=(bRq 0 w3).setCell (p:=⟨p,0,none⟩) (Nat.zero_le _) (Value.slice (some ⟨g3,0,none⟩) q B6)
 exact⟨this.os,this.tape,this.output,this.size,fun k hk hn=>(Lib.grownBy_setCell _ _ _ _).block k hk (by simp;exact hn)⟩
end Go.Proofs.YtjolccidheflpaaGreatDoor
