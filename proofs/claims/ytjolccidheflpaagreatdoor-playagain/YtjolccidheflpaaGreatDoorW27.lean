/- drawn by its contract: lots in the order of a seed; that order holds each of them once. -/
import Derived.Test.YtjolccidheflpaaGreatDoorW21
import Derived.Test.YtjolccidheflpaaGreatDoorW26
namespace Go.Proofs.YtjolccidheflpaaGreatDoor
set_option maxHeartbeats 8000000
set_option maxRecDepth 100000
open Go.RowKit
namespace Ra
theorem ah6 (d:Array Int) (i j:Nat) (hi:i<d.size) (hj:j<d.size):(Sort.swp d i j).toList.Perm d.toList:=by
 have h:=(Sort.swp_permIn d 0 d.size i j (Nat.zero_le _) hi (Nat.zero_le _) hj (lRq _)).2.2;have e1:(Sort.swp d i j).extract 0 d.size=Sort.swp d i j:=by
  have:=Sort.size_swp d i j
  rw[<- this];simp
 rw[e1]at h;simpa using h
theorem NJ (s:Int) (n:Nat):∀ k,k<=n-1->(fB s n k).toList.Perm ((List.range n).map Int.ofNat)
 | 0,_=>by simp[fB]
 | k+1,h=>by
  have hsz:=q9 s n k;have h1:=Int.emod_nonneg (num s (k+1)) (b:=((n-k:Nat):Int)) (by omega);have h2:=Int.emod_lt_of_pos (num s (k+1)) (b:=((n-k:Nat):Int)) (by omega);rw[fB];exact(ah6 _ _ _ (by omega) (by omega)).trans (NJ s n k (by omega))
def sh (s:Int) (l:List Cv.ag):List Cv.ag:=(fB s l.length (l.length-1)).toList.map fun i=>Cv.nth l i.toNat
theorem ah7:∀ l:List Cv.ag,(List.range l.length).map (Cv.nth l)=l:=fun l=>by
 apply List.ext_getElem?;intro i;rw[List.getElem?_map];by_cases hi:i<l.length
 .simp[Cv.nth,hi]
 .simp[hi]
theorem zn (s:Int):sT (sh s):=fun l=>by
 have h:=(NJ s l.length (l.length-1) (lRq _)).map fun i:Int=>Cv.nth l i.toNat;refine h.trans ?_;rw[List.map_map];have e:(fun i:Int=>Cv.nth l i.toNat) ∘ Int.ofNat=Cv.nth l:=by funext i;simp
 rw[e,ah7]
theorem Wx (s:Int) (l:List Cv.ag):(sh s l).length=l.length:=(zn s l).length_eq
theorem ah8 (s:Int) (l:List Cv.ag) (k:Nat) (hk:k<l.length):∃ j:Nat,j<l.length/\(fB s l.length (l.length-1))[k]! = (j:Int)/\Cv.nth (sh s l) k=Cv.nth l j:=by
 have hsz:=q9 s l.length (l.length-1);have hm:(fB s l.length (l.length-1))[k]!∈(fB s l.length (l.length-1)).toList:=by
  rw[getElem!_pos _ k (by omega)];exact Array.getElem_mem_toList _
 have Wy:=(NJ s l.length (l.length-1) (lRq _)).mem_iff.1 hm;obtain⟨j,hj,e⟩:=List.mem_map.1 Wy;refine⟨j,List.mem_range.1 hj,e.symm,?_⟩;have:Cv.nth (sh s l) k=Cv.nth l ((fB s l.length (l.length-1))[k]!).toNat:=by
  unfold sh
  conv=>lhs;unfold Cv.nth
  rw[gE,List.getElem?_map];rw[getElem!_pos _ k (by omega)];simp[hsz,hk,Cv.nth]
 rw[this,<- e];rfl
end Ra
theorem gP {w:World} {a b:Nat} {e:TypeId} {size:Nat} {v:Value} {n:Nat} {xs:List Value} (h:w.ownsRow a e size v n xs) (hb:b<=a):w.ownsRow b e size v n xs :=
 ⟨h.1,h.2.imp id fun ⟨g,cap,cur,h1,h2,h3⟩=>⟨g,cap,cur,h1,lTq hb h2,h3⟩⟩
theorem ah9 (l:List Cv.ag) (x:Cv.ag):flat (l++[x])=flat l++ep x:=by simp[flat]
theorem aia (x:Cv.ag):∀ u∈ep x,u.oneCell'=true:=fun u hu=>by
 simp only[ep,List.mem_cons,List.not_mem_nil,or_false]at hu;rcases hu with rfl | rfl | rfl | rfl | rfl <;> rfl
theorem aib (b off cap n m:Nat) (s:Int) (l:List Cv.ag) (w:World) (hs:Hid (Ra.IsU s)) (hn:Hid (l.length=n)) (hn':n<=200) (hm:(n:Int)-1=m) (hl:Hid (dR w b off l)) :
  Calls Tryz.prog 289 #[.slice (some (Qb b off)) n cap,.int .u32 s] w fun e w'=>∃ v,e=.returned v/\w'.ownsRow w.heap.size 197 5 v n (flat (Ra.sh s l))/\Qd w w':=by
 obtain⟨i0,z0,hi,hz0,hz1,hz2,hz3⟩:=I_;have Hi:=hDq hi;have eG:=hDq hz0;have eH:=hDq hz1;have eI:=hDq hz2;have kQ:=hDq hz3;clear hi hz0 hz1 hz2 hz3;go_enter Tryz.func289,Tryz.ntmps289
 go_wp2_with fail
 refine(aic s n m hs (by omega) hm w).mono ?_;rintro e w1 ⟨v1,rfl,ho,hb1⟩;have HB1:=hDq hb1;have hsz:(Ra.fB s n m).size=n:=Ra.q9 s n m;rcases ho with ⟨h0,_⟩ | ⟨g,sU,rfl,_,hg2,hc⟩
 .omega
 rw[hsz]at hc ⊢;have HC:=hDq hc;have HG:=hDq hg2;clear hb1 hc hg2 hsz;have HD:Hid (l.length-1=m):=by show _=_;rw[hn.out];omega
 simp only[];go_wp2
 go_loopw [5,13] (fun v i wr=>∃ k:Nat,k<=n/\i=Qa k/\wr.ownsRow w1.heap.size 197 5 v k (flat ((Ra.sh s l).take k))/\Qd w1 wr) (fun _ i _=>n-(intOf i).toNat)
 case atStart=>exact⟨0,Nat.zero_le _,rfl,World.ownsRow_nil _ _ _ _,bRq _ _⟩
 case round =>
  obtain⟨k,hk,rfl,hown,hbw⟩:=hrel;have HB:=hDq (HB1.out.trans (hbw.mono HB1.out.size));have HO:=hDq hown;have HW:=hDq hbw;clear hown hbw;by_cases hlt:k<n
  .have aX:(k:Int)<n:=by omega
   obtain⟨j,hj,zo,Wz⟩:=Ra.ah8 s l k (by rw[hn.out];exact hlt);rw[HD.out,hn.out]at zo;rw[hn.out]at hj;have bI:(j:Int)<n:=by omega
   have NK:wr.cell? (Qb g k)=some (Qa (j:Int)):=by rw[<- zo];exact cell_later HW.out (HC.out k hlt)
   obtain⟨c0,c1,c2,c3,c4⟩:=(hl.out.later HB.out) j (by rw[hn.out];exact hj);have HT:Hid ((Ra.sh s l).take (k+1)=(Ra.sh s l).take k++[Cv.nth l j]):=by
    show _=_;rw[Cv.take_succ (by rw[Ra.Wx,hn.out];exact hlt),Wz]
   clear zo Wz;generalize Cv.nth l j=x at *
   go_wp2_with (at_builtin;refine wpList_append_own _ rfl _ _ 195 rfl w1.heap.size 197 i0 z0 5 40 Tryz.underlying195 Hi.out eG.out eH.out eI.out kQ.out (by decide) _ _ _ rfl (HO.out.alloc _) (Qb wr.heap.size 0) 1 1 (ep x) rfl rfl ?c1 ?c2 ?c3 ?c4 ?c5 ?_)
   case c1=>exact fun j u hj=>xY wr x _ _ rfl j u hj
   case c2=>exact aia x
   case c3=>unfold maxLen;omega
   case c4=>omega
   case c5=>have:=HW.out.size;simp;omega
   intro v3 w3 hown' hgrow _;have sV:Hid (w3.ownsRow w1.heap.size 197 5 v3 (k+1) (flat ((Ra.sh s l).take (k+1)))):=by
    show w3.ownsRow _ _ _ _ _ _;rw[HT.out,ah9];exact hown'
   have hrow:=HO.out.lt;have HW3:Hid (Qd w1 w3):=(HW.out.alloc HW.out.size _).grown hgrow (by have:=HW.out.size;simp;omega) (fun j hj=>(hrow j hj).1);clear hown' hgrow HO HB hrow HW;go_wp2;exact⟨⟨k+1,by omega,by go_num,sV.out,HW3.out⟩,by simp[intOf];omega⟩
  .have aX:¬ (k:Int)<n:=by omega
   obtain rfl:k=n:=by omega
   have NL:Hid (wr.ownsRow w.heap.size 197 5 u5 k (flat (Ra.sh s l))):=by
    have:=HO.out
    rw[List.take_of_length_le (by rw[Ra.Wx,hn.out];omega)]at this;exact gP this HB1.out.size
   clear HO;go_wp2;go_ret;exact⟨_,rfl,NL.out,HB.out⟩
end Go.Proofs.YtjolccidheflpaaGreatDoor
