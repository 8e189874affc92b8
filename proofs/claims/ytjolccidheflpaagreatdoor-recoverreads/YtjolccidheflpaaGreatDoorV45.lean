/- tape.Recover of a disk, by its contract: the disk's own block alone turns. -/
import Derived.Test.YtjolccidheflpaaGreatDoorV43
import Derived.Test.YtjolccidheflpaaGreatDoorV35
namespace Go.Proofs.YtjolccidheflpaaGreatDoor
set_option maxHeartbeats 8000000
open Go.RowKit
set_option maxRecDepth 100000
theorem alS (base p:Nat) (v:Value) (l:List UInt8) (cut:Bool) (left:Int) (w:World) (hd:dG w base p v l cut left) (hl:l.length<=1100000) :
  Calls Tryz.prog 61 #[.pointer (some ⟨p,0,none⟩)] w fun e w'=>∃ Pt v' ts r,e=.returned (.tuple #[Pt,.nilIface])∧bn.zb l ts r∧dG w' base p v' (bn.recs ts) false 0∧v'.ownBlock=v.ownBlock∧aF w w' (fun k=>k=p):=by
 have om:dG ((w.setCell ⟨p,1,none⟩ (.bool false)).setCell ⟨p,2,none⟩ (.int .i64 0)) base p v l false 0 :=
  ⟨aiW hd.cell,(hd.row.setCell hd.cell _).setCell (heap_setCell_same w p 1 _ 117 (.bool false) hd.cell) _,hd.lo⟩
 have ht1:aF w ((w.setCell ⟨p,1,none⟩ (.bool false)).setCell ⟨p,2,none⟩ (.int .i64 0)) (fun k=>k=p):=by
  have:=((bRq 0 w).setCell (p:=⟨p,1,none⟩) (Nat.zero_le _) (.bool false)).setCell (p:=⟨p,2,none⟩) (Nat.zero_le _) (.int .i64 0)
  refine⟨this.os,this.tape,this.output,this.size,fun k hk hn=>?_⟩;rw[(Lib.grownBy_setCell _ _ _ _).block k (by simpa using hk) (by simp;exact hn),(Lib.grownBy_setCell _ _ _ _).block k hk (by simp;exact hn)]
 have HD1:=hDq om;have HT1:=hDq ht1;clear om ht1;have Hp:=hDq hd.cell;go_enter Tryz.func61,Tryz.ntmps61
 go_wp2_with fail
 refine(aiV p v cut left w Hp.out).mono ?_;rintro e w1 ⟨rfl,rfl⟩;generalize (w.setCell ⟨p,1,none⟩ (.bool false)).setCell ⟨p,2,none⟩ (.int .i64 0)=w1 at *
 go_wp2_with fail
 refine(Xi base p l false 0 w1 ⟨HD1.out.lo,v,HD1.out.cell,HD1.out.row⟩).mono ?_;rintro e w2 ⟨rfl,rfl⟩
 go_wp2_with fail
 refine(Xm (ba l) _ (by rw[NZ];exact hl)).mono ?_;rintro e w3 ⟨v3,ts,r,rfl,hread,hst,hb3⟩;rw[Xc]at hread;have iZ:=hDq hread;have HT3:=hDq (HT1.out.trans (aF.of_below hb3 (fun _=>False)) (fun k h=>h.elim));have yu:Hid (w3.heap[p]?=some (.cells #[v,.bool false,.int .i64 0] 117 (0,0))):=by rw[hb3.block p (lBq HD1.out.cell)];exact HD1.out.cell
 have HR3:=hDq (HD1.out.row.turned (aF.of_below hb3 (fun _=>False)) (fun _ _ h=>h));have hn:(bn.recs ts).length<=l.length:=by
  have:=congrArg List.length hread.1
  rw[lAq]at this;omega
 clear hread hst hb3;obtain⟨g3,y7,hv3,hc3⟩:=HR3.out.form;rw[iF]at hv3 hc3;subst hv3;obtain⟨kF,k1,k2,kf,ao4⟩:=rO yu.out;generalize hq:(bn.recs ts).length=q at *;have ao5:q<=y7:=by omega
 have ab6:(q:Int)<=y7:=by omega
 simp only[];go_wp2;go_ret2;have hrow:dz w3 base (.slice (some ⟨g3,0,none⟩) q y7) (ints (bn.recs ts)):=by
  have h:=HR3.out.take q (by rw[iF];exact hn);rw[<- Xb,show l.take q=bn.recs ts by rw[iZ.out.1,<- hq,List.take_left]]at h;exact h
 refine⟨v3,_,ts,r,rfl,iZ.out,⟨heap_setCell_same w3 p 0 _ 117 _ yu.out,hrow.setCell yu.out _,HD1.out.lo⟩,rfl,?_⟩;refine HT3.out.trans (S1:=fun k=>k=p) ?_ (fun k h=>.inl h)
 have:=(bRq 0 w3).setCell (p:=⟨p,0,none⟩) (Nat.zero_le _) (Value.slice (some ⟨g3,0,none⟩) q y7)
 exact⟨this.os,this.tape,this.output,this.size,fun k hk hn=>(Lib.grownBy_setCell _ _ _ _).block k hk (by simp;exact hn)⟩
end Go.Proofs.YtjolccidheflpaaGreatDoor
