/- tape.Recover of a disk, by its contract: the disk's own block alone turns. -/
import Derived.Test.YtjolccidheflpaaGreatDoorW44
import Derived.Test.YtjolccidheflpaaGreatDoorW35
namespace Go.Proofs.YtjolccidheflpaaGreatDoor
set_option maxHeartbeats 8000000
set_option maxRecDepth 100000
open Go.RowKit
theorem amD (base p:Nat) (v:Value) (l:List UInt8) (cut:Bool) (left:Int) (w:World) (hd:ek w base p v l cut left) (hl:l.length<=1100000) :
  Calls Tryz.prog 61 #[Qc p] w fun e w'=>∃ PN v' ts r,e=.returned (.tuple #[PN,.nilIface])/\bC.zz l ts r/\ek w' base p v' (bC.recs ts) false 0/\v'.ownBlock=v.ownBlock/\aJ w w' (fun k=>k=p):=by
 have o7:ek ((w.setCell (Qb p 1) (.bool false)).setCell (Qb p 2) (Qa 0)) base p v l false 0 :=
  ⟨ajP hd.cell,(hd.row.setCell hd.cell _).setCell (heap_setCell_same w p 1 _ 117 (.bool false) hd.cell) _,hd.lo⟩
 have ht1:aJ w ((w.setCell (Qb p 1) (.bool false)).setCell (Qb p 2) (Qa 0)) (fun k=>k=p):=by
  have:=((bRq 0 w).setCell (p:=(Qb p 1)) (Nat.zero_le _) (.bool false)).setCell (p:=(Qb p 2)) (Nat.zero_le _) (Qa 0)
  refine⟨this.os,this.tape,this.output,this.size,fun k hk hn=>?_⟩;rw[(Lib.grownBy_setCell _ _ _ _).block k (by simpa using hk) (by simp;exact hn),(Lib.grownBy_setCell _ _ _ _).block k hk (by simp;exact hn)]
 have HD1:=hDq o7;have HT1:=hDq ht1;clear o7 ht1;have Hp:=hDq hd.cell;go_enter Tryz.func61,Tryz.ntmps61
 go_wp2_with fail
 refine(ajO p v cut left w Hp.out).mono ?_;rintro e w1 ⟨rfl,rfl⟩;generalize (w.setCell (Qb p 1) (.bool false)).setCell (Qb p 2) (Qa 0)=w1 at *
 go_wp2_with fail
 refine(XP base p l false 0 w1 ⟨HD1.out.lo,v,HD1.out.cell,HD1.out.row⟩).mono ?_;rintro e w2 ⟨rfl,rfl⟩
 go_wp2_with fail
 refine(XV (ba l) _ (by rw[Og];exact hl)).mono ?_;rintro e w3 ⟨v3,ts,r,rfl,hread,hst,hb3⟩;rw[XJ]at hread;have mS:=hDq hread;have HT3:=hDq (HT1.out.trans (aJ.of_below hb3 (fun _=>False)) (fun k h=>h.elim));have yG:Hid (w3.heap[p]?=some (.cells #[v,.bool false,Qa 0] 117 (0,0))):=by rw[hb3.block p (lBq HD1.out.cell)];exact HD1.out.cell
 have HR3:=hDq (HD1.out.row.turned (aJ.of_below hb3 (fun _=>False)) (fun _ _ h=>h));have hn:(bC.recs ts).length<=l.length:=by
  have:=congrArg List.length hread.1
  rw[lAq]at this;omega
 clear hread hst hb3;obtain⟨g3,CG,hv3,hc3⟩:=HR3.out.form;rw[iT]at hv3 hc3;subst hv3;obtain⟨kY,k1,k2,kf,apH⟩:=s7 yG.out;generalize hq:(bC.recs ts).length=q at *;have apI:q<=CG:=by omega
 have abN:(q:Int)<=CG:=by omega
 simp only[];go_wp2;go_ret2;have hrow:dY w3 base (.slice (some (Qb g3 0)) q CG) (ints (bC.recs ts)):=by
  have h:=HR3.out.take q (by rw[iT];exact hn);rw[<- XI,show l.take q=bC.recs ts by rw[mS.out.1,<- hq,List.take_left]]at h;exact h
 refine⟨v3,_,ts,r,rfl,mS.out,⟨heap_setCell_same w3 p 0 _ 117 _ yG.out,hrow.setCell yG.out _,HD1.out.lo⟩,rfl,?_⟩;refine HT3.out.trans (S1:=fun k=>k=p) ?_ (fun k h=>.inl h)
 have:=(bRq 0 w3).setCell (p:=(Qb p 0)) (Nat.zero_le _) (Value.slice (some (Qb g3 0)) q CG)
 exact⟨this.os,this.tape,this.output,this.size,fun k hk hn=>(Lib.grownBy_setCell _ _ _ _).block k hk (by simp;exact hn)⟩
end Go.Proofs.YtjolccidheflpaaGreatDoor
