/- plain.Code by its contracts: at nil, and at errors of errors.New's make. -/
import Derived.Test.YtjolccidheflpaaGreatDoorX02
import Derived.Test.YtjolccidheflpaaGreatDoorX03
namespace Go.Proofs.YtjolccidheflpaaGreatDoor
open Go.Proofs.Tryz
set_option maxHeartbeats 8000000
set_option maxRecDepth 100000
open Go.RowKit
def BQ:Nat->Nat
 | 2=>3
 | 3=>4
 | 4=>5
 | 5=>6
 | 6=>7
 | 7=>8
 | 8=>2
 | g=>g
structure bJ (w:World) (ad:Nat->Addr):Prop where
 cell:∀g,g<12->w.cell? ⟨BQ g,0,none⟩=some (.iface 412 (.pointer (some (ad g))))
 et:w.cell? (O 12 0)=some (.iface 310 (.agg #[.pointer (some (O 26 26))]))
 row:∀g,g<12->∃c t,w.heap[(ad g).block]?=some (.cells c t (0,0))
 ne:∀g h,g<12->h<12->g≠h->ad g≠ad h
theorem aer{w:World}{k:Nat}{o:Obj}(h:w.heap[k]?=some o):k<w.heap.size:=by
 rcases Nat.lt_or_ge k w.heap.size with h' | h'
 .exact h'
 .simp[Array.getElem?_eq_none h']at h
theorem bJ.later{w w':World}{ad:Nat->Addr}(h:bJ w ad)(hb:U w w'):bJ w' ad :=
 ⟨fun g hg=>cell_later hb (h.cell g hg),cell_later hb h.et,
  fun g hg=>by obtain⟨c,t,e⟩:=h.row g hg;exact⟨c,t,(hb.block _ (aer e)).trans e⟩,h.ne⟩
theorem aes(w:World):Calls prog 49 #[.nilIface] w fun e w'=>e=.returned (.tuple #[Z 0,Z (-1)])/\w'=w:=by go_enter func49,ntmps49;go_wp2;go_ret2;exact⟨rfl,rfl⟩
def codeOf(j:Nat):Int:=if j<12 then j+1 else -1
theorem aet(x:Addr)(j:Nat)(ad:Nat->Addr)(w:World)(hs:Hid (bJ w ad))(hIs:Hid (∀k,k<12->∀aD,U w aD->Calls prog 92 #[.iface 412 (.pointer (some x)),.iface 412 (.pointer (some (ad k)))] aD fun e w'=>e=.returned (.bool (k==j))/\w'=aD)):
  Calls prog 49 #[.iface 412 (.pointer (some x))] w fun e w'=>e=.returned (.tuple #[Z (codeOf j),Z (-1)])/\U w w':=by
 go_enter func49,ntmps49
 go_wp2_with fail
 refine(AAB x _ _ (cell_later aj hs.et)).mono ?_;rintro e w1 ⟨rfl,hb1⟩;have HB1:Hid (U w w1):=aj.trans (hb1.mono (by simp));clear hb1;have c0:w1.cell? (O 0 0)=some (.iface 412 (.pointer (some (ad 0)))):=(hs.later HB1).cell 0 (by decide);have c1:w1.cell? (O 1 0)=some (.iface 412 (.pointer (some (ad 1)))):=(hs.later HB1).cell 1 (by decide);have c2:w1.cell? (O 3 0)=some (.iface 412 (.pointer (some (ad 2)))):=(hs.later HB1).cell 2 (by decide);have c3:w1.cell? (O 4 0)=some (.iface 412 (.pointer (some (ad 3)))):=(hs.later HB1).cell 3 (by decide);have c4:w1.cell? (O 5 0)=some (.iface 412 (.pointer (some (ad 4)))):=(hs.later HB1).cell 4 (by decide);have c5:w1.cell? (O 6 0)=some (.iface 412 (.pointer (some (ad 5)))):=(hs.later HB1).cell 5 (by decide);have c6:w1.cell? (O 7 0)=some (.iface 412 (.pointer (some (ad 6)))):=(hs.later HB1).cell 6 (by decide);have c7:w1.cell? (O 8 0)=some (.iface 412 (.pointer (some (ad 7)))):=(hs.later HB1).cell 7 (by decide);have c8:w1.cell? (O 2 0)=some (.iface 412 (.pointer (some (ad 8)))):=(hs.later HB1).cell 8 (by decide);have c9:w1.cell? (O 9 0)=some (.iface 412 (.pointer (some (ad 9)))):=(hs.later HB1).cell 9 (by decide);have c10:w1.cell? (O 10 0)=some (.iface 412 (.pointer (some (ad 10)))):=(hs.later HB1).cell 10 (by decide);have c11:w1.cell? (O 11 0)=some (.iface 412 (.pointer (some (ad 11)))):=(hs.later HB1).cell 11 (by decide)
 go_wp2_with fail
 have hcell:∀k,k<12->(w1.alloc (.cells #[.iface 412 (.pointer (some (ad 0))),.iface 412 (.pointer (some (ad 1))),.iface 412 (.pointer (some (ad 2))),.iface 412 (.pointer (some (ad 3))),.iface 412 (.pointer (some (ad 4))),.iface 412 (.pointer (some (ad 5))),.iface 412 (.pointer (some (ad 6))),.iface 412 (.pointer (some (ad 7))),.iface 412 (.pointer (some (ad 8))),.iface 412 (.pointer (some (ad 9))),.iface 412 (.pointer (some (ad 10))),.iface 412 (.pointer (some (ad 11)))] 26)).cell? (O w1.heap.size k)=some (.iface 412 (.pointer (some (ad k)))):=by
  intro k hk;rw[World.cell?_alloc_new]
  match k,hk with
  | 0,_=>rfl
  | 1,_=>rfl
  | 2,_=>rfl
  | 3,_=>rfl
  | 4,_=>rfl
  | 5,_=>rfl
  | 6,_=>rfl
  | 7,_=>rfl
  | 8,_=>rfl
  | 9,_=>rfl
  | 10,_=>rfl
  | 11,_=>rfl
 have hb2:U w (w1.alloc (.cells #[.iface 412 (.pointer (some (ad 0))),.iface 412 (.pointer (some (ad 1))),.iface 412 (.pointer (some (ad 2))),.iface 412 (.pointer (some (ad 3))),.iface 412 (.pointer (some (ad 4))),.iface 412 (.pointer (some (ad 5))),.iface 412 (.pointer (some (ad 6))),.iface 412 (.pointer (some (ad 7))),.iface 412 (.pointer (some (ad 8))),.iface 412 (.pointer (some (ad 9))),.iface 412 (.pointer (some (ad 10))),.iface 412 (.pointer (some (ad 11)))] 26)):=HB1.alloc HB1.size _;clear c0 c1 c2 c3 c4 c5 c6 c7 c8 c9 c10 c11;generalize w1.alloc (.cells #[.iface 412 (.pointer (some (ad 0))),.iface 412 (.pointer (some (ad 1))),.iface 412 (.pointer (some (ad 2))),.iface 412 (.pointer (some (ad 3))),.iface 412 (.pointer (some (ad 4))),.iface 412 (.pointer (some (ad 5))),.iface 412 (.pointer (some (ad 6))),.iface 412 (.pointer (some (ad 7))),.iface 412 (.pointer (some (ad 8))),.iface 412 (.pointer (some (ad 9))),.iface 412 (.pointer (some (ad 10))),.iface 412 (.pointer (some (ad 11)))] 26)=w2 at *;have HB2:=Y hb2;have HC:=Y hcell;clear hb2 hcell
 go_loop [3,30] (fun a i=>∃k:Nat,k<=12/\k<=j/\i=Z k/\a=Z (-1)) (fun _ i=>12-(intOf i).toNat)
 case atStart=>exact⟨0,by omega,by omega,rfl,rfl⟩
 case round =>
  obtain⟨k,hk,hkj,rfl,rfl⟩:=hrel;by_cases hlt:k<12
  .have sZ:=HC.out k hlt
   have aT:((k:Int))<12:=by omega
   by_cases hj:k=j
   .have HI:=Y (hIs k hlt _ HB2)
    have hb:(k==j)=true:=by simp[hj]
    have Hj:=Y hj;clear hj
    go_wp2_with fail
    refine(HI).mono ?_;rintro e w3 ⟨rfl,rfl⟩;rw[hb];go_wp2;go_ret2;exact⟨by rw[show codeOf j=(k:Int)+1 by unfold codeOf;rw[<- Hj.out,if_pos hlt]];rfl,HB2⟩
   .have HI:=Y (hIs k hlt _ HB2)
    have hb:(k==j)=false:=by simp[hj]
    go_wp2_with fail
    refine(HI).mono ?_;rintro e w3 ⟨rfl,rfl⟩;rw[hb];go_wp2;exact⟨⟨k+1,by omega,by omega,by go_num,rfl⟩,by simp[intOf];omega⟩
  .have aT:¬ ((k:Int))<12:=by omega
   go_wp2;go_ret2;exact⟨by rw[show codeOf j = -1 by unfold codeOf;rw[if_neg (by omega)]];rfl,HB2⟩
theorem bJ.is{w aD:World}{ad:Nat->Addr}(h:bJ w ad)(hb:U w aD)(j k:Nat)(hj:j<12)(hk:k<12):
  Calls prog 92 #[.iface 412 (.pointer (some (ad j))),.iface 412 (.pointer (some (ad k)))] aD fun e w'=>e=.returned (.bool (k==j))/\w'=aD:=by
 by_cases hjk:k=j
 .subst hjk
  simpa using aeu (ad k) aD
 .obtain⟨ca,ta,ha⟩:=(h.later hb).row j hj
  obtain⟨cb,tb,hb'⟩:=(h.later hb).row k hk;have e:(k==j)=false:=by simpa using hjk
  rw[e];exact aev (ad j) (ad k) ca cb ta tb aD (h.ne j k hj hk (fun e=>hjk e.symm)) ha hb'
theorem aew(j:Nat)(hj:j<12)(ad:Nat->Addr)(w:World)(hs:bJ w ad):
  Calls prog 49 #[.iface 412 (.pointer (some (ad j)))] w fun e w'=>e=.returned (.tuple #[Z (j+1),Z (-1)])/\U w w':=by
 have h:=aet (ad j) j ad w hs (fun k hk aD hb=>hs.is hb j k hj hk);rw[show codeOf j=j+1 by simp[codeOf,hj]]at h;exact h
end Go.Proofs.YtjolccidheflpaaGreatDoor
