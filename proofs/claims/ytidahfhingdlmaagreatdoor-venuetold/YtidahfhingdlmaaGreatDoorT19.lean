/- drawn by its contract: lots in the order of a seed; that order holds each of them once. -/
import Derived.Test.YtidahfhingdlmaaGreatDoorT13
import Derived.Test.YtidahfhingdlmaaGreatDoorT18
namespace Go.Proofs.YtidahfhingdlmaaGreatDoor
open Go.RowKit
set_option maxRecDepth 100000
namespace Ra
theorem swp_perm (d:Array Int) (i j:Nat) (hi:i < d.size) (hj:j < d.size):(Sort.swp d i j).toList.Perm d.toList:=by
 have h:=(Sort.swp_permIn d 0 d.size i j (Nat.zero_le _) hi (Nat.zero_le _) hj (Nat.le_refl _)).2.2
 have e1:(Sort.swp d i j).extract 0 d.size = Sort.swp d i j:=by
  have:=Sort.size_swp d i j
  rw [← this];simp
 rw [e1] at h
 simpa using h
theorem shuf_perm (s:Int) (n:Nat):∀ k,k≤n - 1→(shuf s n k).toList.Perm ((List.range n).map Int.ofNat)
 | 0,_=>by simp [shuf]
 | k + 1,h=>by
  have hsz:=shuf_size s n k
  have h1:=Int.emod_nonneg (num s (k + 1)) (b:=((n - k:Nat):Int)) (by omega)
  have h2:=Int.emod_lt_of_pos (num s (k + 1)) (b:=((n - k:Nat):Int)) (by omega)
  rw [shuf]
  exact (swp_perm _ _ _ (by omega) (by omega)).trans (shuf_perm s n k (by omega))
def sh (s:Int) (l:List Cv.Lot):List Cv.Lot:=(shuf s l.length (l.length - 1)).toList.map fun i=>Cv.nth l i.toNat
theorem range_nth:∀ l:List Cv.Lot,(List.range l.length).map (Cv.nth l) = l:=fun l=>by
 apply List.ext_getElem?
 intro i
 rw [List.getElem?_map]
 by_cases hi:i < l.length
 ·simp [Cv.nth,hi]
 ·simp [hi]
theorem mix_sh (s:Int):Mix (sh s):=fun l=>by
 have h:=(shuf_perm s l.length (l.length - 1) (Nat.le_refl _)).map fun i:Int=>Cv.nth l i.toNat
 refine h.trans ?_
 rw [List.map_map]
 have e:(fun i:Int=>Cv.nth l i.toNat) ∘ Int.ofNat = Cv.nth l:=by funext i;simp
 rw [e,range_nth]
theorem sh_length (s:Int) (l:List Cv.Lot):(sh s l).length = l.length:=(mix_sh s l).length_eq
theorem sh_nth (s:Int) (l:List Cv.Lot) (k:Nat) (hk:k < l.length):∃ j:Nat,j < l.length∧(shuf s l.length (l.length - 1))[k]! = (j:Int)∧Cv.nth (sh s l) k = Cv.nth l j:=by
 have hsz:=shuf_size s l.length (l.length - 1)
 have hm:(shuf s l.length (l.length - 1))[k]!∈(shuf s l.length (l.length - 1)).toList:=by
  rw [getElem!_pos _ k (by omega)]
  exact Array.getElem_mem_toList _
 have hm2:=(shuf_perm s l.length (l.length - 1) (Nat.le_refl _)).mem_iff.1 hm
 obtain ⟨j,hj,e⟩:=List.mem_map.1 hm2
 refine ⟨j,List.mem_range.1 hj,e.symm,?_⟩
 have:Cv.nth (sh s l) k = Cv.nth l ((shuf s l.length (l.length - 1))[k]!).toNat:=by
  unfold sh
  conv=>lhs;unfold Cv.nth
  rw [List.getD_eq_getElem?_getD,List.getElem?_map]
  rw [getElem!_pos _ k (by omega)]
  simp [hsz,hk,Cv.nth]
 rw [this,← e];rfl
end Ra
theorem row_base {w:World} {a b:Nat} {e:TypeId} {size:Nat} {v:Value} {n:Nat} {xs:List Value} (h:w.ownsRow a e size v n xs) (hb:b≤a):w.ownsRow b e size v n xs :=
 ⟨h.1,h.2.imp id fun ⟨g,cap,cur,h1,h2,h3⟩=>⟨g,cap,cur,h1,Nat.le_trans hb h2,h3⟩⟩
theorem flat_snoc (l:List Cv.Lot) (x:Cv.Lot):flat (l++[x]) = flat l++lotCells x:=by simp [flat]
theorem lotCells_one (x:Cv.Lot):∀ u∈lotCells x,u.oneCell' = true:=fun u hu=>by
 simp only [lotCells,List.mem_cons,List.not_mem_nil,or_false] at hu
 rcases hu with rfl | rfl | rfl | rfl | rfl <;> rfl
set_option maxHeartbeats 1000000 in
theorem drawn_some (b off cap n m:Nat) (s:Int) (l:List Cv.Lot) (w:World) (hs:Hid (Ra.IsU s)) (hn:Hid (l.length = n)) (hn':n≤200) (hm:(n:Int) - 1 = m) (hl:Hid (LotsAt w b off l)) :
  Calls Tryz.prog 233 #[.slice (some ⟨b,off,none⟩) n cap,.int .u32 s] w fun e w'=>∃ v,e = .returned v∧w'.ownsRow w.heap.size 137 5 v n (flat (Ra.sh s l))∧Below w.heap.size w w':=by
 obtain ⟨i0,z0,hi,hz0,hz1,hz2,hz3⟩:=info43
 have Hi:=hide hi;have Hz0:=hide hz0;have Hz1:=hide hz1;have Hz2:=hide hz2;have Hz3:=hide hz3
 clear hi hz0 hz1 hz2 hz3
 go_enter Tryz.func233,Tryz.ntmps233
 go_wp2_with fail
 refine (shuffle_any s n m hs (by omega) hm w).mono ?_
 rintro e w1 ⟨v1,rfl,ho,hb1⟩
 have HB1:=hide hb1
 have hsz:(Ra.shuf s n m).size = n:=Ra.shuf_size s n m
 rcases ho with ⟨h0,_⟩ | ⟨g,cap1,rfl,_,hg2,hc⟩
 ·omega
 rw [hsz] at hc ⊢
 have HC:=hide hc;have HG:=hide hg2
 clear hb1 hc hg2 hsz
 have HD:Hid (l.length - 1 = m):=by show _ = _;rw [hn.out];omega
 simp only []
 go_wp2
 go_loopw [5,13] (fun v i wr=>∃ k:Nat,k≤n∧i = .int .i64 k∧wr.ownsRow w1.heap.size 137 5 v k (flat ((Ra.sh s l).take k))∧Below w1.heap.size w1 wr) (fun _ i _=>n - (intOf i).toNat)
 case atStart=>exact ⟨0,Nat.zero_le _,rfl,World.ownsRow_nil _ _ _ _,Below.refl _ _⟩
 case round =>
  obtain ⟨k,hk,rfl,hown,hbw⟩:=hrel
  have HB:=hide (HB1.out.trans (hbw.mono HB1.out.size));have HO:=hide hown;have HW:=hide hbw
  clear hown hbw
  by_cases hlt:k < n
  ·have hki:(k:Int) < n:=by omega
   obtain ⟨j,hj,ej,enth⟩:=Ra.sh_nth s l k (by rw [hn.out];exact hlt)
   rw [HD.out,hn.out] at ej
   rw [hn.out] at hj
   have hji:(j:Int) < n:=by omega
   have cg:wr.cell? ⟨g,k,none⟩ = some (.int .i64 (j:Int)):=by rw [← ej];exact cell_later HW.out (HC.out k hlt)
   obtain ⟨c0,c1,c2,c3,c4⟩:=(hl.out.later HB.out) j (by rw [hn.out];exact hj)
   have HT:Hid ((Ra.sh s l).take (k + 1) = (Ra.sh s l).take k++[Cv.nth l j]):=by
    show _ = _
    rw [Cv.take_succ (by rw [Ra.sh_length,hn.out];exact hlt),enth]
   clear ej enth
   generalize Cv.nth l j = x at *
   go_wp2_with (at_builtin;refine wpList_append_own _ rfl _ _ 60 rfl w1.heap.size 137 i0 z0 5 40 Tryz.underlying60 Hi.out Hz0.out Hz1.out Hz2.out Hz3.out (by decide) _ _ _ rfl (HO.out.alloc _) ⟨wr.heap.size,0,none⟩ 1 1 (lotCells x) rfl rfl ?c1 ?c2 ?c3 ?c4 ?c5 ?_)
   case c1=>exact fun j u hj=>cell_new5 wr x _ _ rfl j u hj
   case c2=>exact lotCells_one x
   case c3=>unfold maxLen;omega
   case c4=>omega
   case c5=>have:=HW.out.size;simp;omega
   intro v3 w3 hown' hgrow _
   have HO3:Hid (w3.ownsRow w1.heap.size 137 5 v3 (k + 1) (flat ((Ra.sh s l).take (k + 1)))):=by
    show w3.ownsRow _ _ _ _ _ _
    rw [HT.out,flat_snoc]
    exact hown'
   have hrow:=HO.out.lt
   have HW3:Hid (Below w1.heap.size w1 w3):=(HW.out.alloc HW.out.size _).grown hgrow (by have:=HW.out.size;simp;omega) (fun j hj=>(hrow j hj).1)
   clear hown' hgrow HO HB hrow HW
   go_wp2
   exact ⟨⟨k + 1,by omega,by go_num,HO3.out,HW3.out⟩,by simp [intOf];omega⟩
  ·have hki:¬ (k:Int) < n:=by omega
   obtain rfl:k = n:=by omega
   have HO':Hid (wr.ownsRow w.heap.size 137 5 u5 k (flat (Ra.sh s l))):=by
    have:=HO.out
    rw [List.take_of_length_le (by rw [Ra.sh_length,hn.out];omega)] at this
    exact row_base this HB1.out.size
   clear HO
   go_wp2
   go_ret
   exact ⟨_,rfl,HO'.out,HB.out⟩
end Go.Proofs.YtidahfhingdlmaaGreatDoor
