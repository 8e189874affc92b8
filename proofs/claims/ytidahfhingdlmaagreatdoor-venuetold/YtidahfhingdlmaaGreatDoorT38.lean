/- What a round tells of one order: plain facts. -/
import Derived.Test.YtidahfhingdlmaaGreatDoorT37
import Derived.Test.YtidahfhingdlmaaGreatDoorT36
import Derived.Test.YtidahfhingdlmaaGreatDoorT03
namespace Go.Proofs.YtidahfhingdlmaaGreatDoor
set_option maxRecDepth 100000
namespace Ve
open Cv
def dp (D:Int) (l:List Rep):List Rep:=l.filter fun r=>r.id == D
theorem dp_append (D:Int) (a b:List Rep):dp D (a++b) = dp D a++dp D b:=List.filter_append ..
theorem dp_none {D:Int} {l:List Rep} (h:∀ r∈l,r.id≠D):dp D l = []:=by
 unfold dp;rw [List.filter_eq_nil_iff];intro r hr;simpa using h r hr
theorem dp_more {D:Int} (a:List Rep) {b:List Rep} (h:∀ r∈b,r.id≠D):dp D (a++b) = dp D a:=by
 rw [dp_append,dp_none h,List.append_nil]
def NoId (L:Nat→List Lot) (D:Int):Prop:=∀ i,i < 3→∀ x∈L i,x.id≠D
theorem dL_mem (c:Int) (L:Nat→List Lot) {x:Lot}:∀ k j,x∈Fl.dL c L k j→x∈L j
 | 0,_,h=>h
 | k + 1,j,h=>by
  unfold Fl.dL upd at h
  split at h
  ·rename_i e;subst e;exact (List.mem_filter.1 h).1
  ·exact dL_mem c L k j h
theorem dO_mem (c:Int) (L:Nat→List Lot) {x:Lot}:∀ k,x∈Fl.dO c L k→∃ j,j < k∧x∈L j
 | 0,h=>by cases h
 | k + 1,h=>by
  unfold Fl.dO at h
  rcases List.mem_append.1 h with h | h
  ·obtain ⟨j,h1,h2⟩:=dO_mem c L k h;exact ⟨j,by omega,h2⟩
  ·exact ⟨k,by omega,(List.mem_filter.1 h).1⟩
theorem del_mem {l:List Lot} {k:Nat} {x:Lot} (h:x∈Bk.del l k):x∈l:=by
 unfold Bk.del at h
 rcases List.mem_append.1 h with h | h
 ·exact List.mem_of_mem_take h
 ·exact List.mem_of_mem_drop h
theorem del_keep {l:List Lot} {k:Nat} {x:Lot} (h:x∈l) (hne:x≠nth l k):x∈Bk.del l k:=by
 unfold Bk.del
 by_cases hk:k < l.length
 ·have e:l.take k++l.drop k = l:=List.take_append_drop k l
  rw [← e,Fl.drop_cons hk] at h
  rcases List.mem_append.1 h with h | h
  ·exact List.mem_append_left _ h
  ·rcases List.mem_cons.1 h with h | h
   ·exact absurd h hne
   ·exact List.mem_append_right _ h
 ·rw [List.take_of_length_le (by omega)];exact List.mem_append_left _ h
theorem rest_mem {F:List (Int × Int)} {l:List Lot} {x:Lot} (h:x∈Fs.restL F l):∃ y∈l,x.id = y.id:=by
 unfold Fs.restL Fu.rem at h
 obtain ⟨y,hy,he⟩:=List.mem_filterMap.1 h
 unfold Fu.remF at he
 split at he
 ·cases he;exact ⟨y,hy,rfl⟩
 ·cases he
theorem getX_id {l:List Lot} {id:Int} (h:has l id = true):(Bk.getX l id).id = id:=by
 have hp:=Bk.pos_has.1 h
 have:Bk.getX l id = nth l (Bk.pos l id):=by unfold Bk.getX;rw [if_pos h]
 rw [this]
 exact Bk.pos_id (Bk.pos_has.1 h)
theorem fills_of_lots {wd h:Int} {r:Ro} (H:FAll r.L r.pf r.n wd h) {i:Nat} (hi:i < 3) (s p:Int) {D:Int} (hn:∀ x∈r.L i,x.id≠D):∀ q∈(tF wd r i s).map (fillR (r.L i) p),q.id≠D:=by
 intro q hq
 obtain ⟨f,hf,rfl⟩:=List.mem_map.1 hq
 obtain ⟨_,x,hx,e⟩:=(tF_mem H hi s).2 f hf
 show f.1≠D
 rw [← e];exact hn x hx
theorem tF_le {wd h:Int} {r:Ro} (H:FAll r.L r.pf r.n wd h) {i:Nat} (hi:i < 3) (s:Int):∀ x∈r.L i,0≤Ra.got x.id (tF wd r i s)∧Ra.got x.id (tF wd r i s)≤x.q:=by
 have hw:Cv.Won (r.L i) (r.n (i * 2)) 1000 (tP r i) (tV r i):=won_spec (H.ok.bk i hi).oks _
 intro x hx
 unfold tF Fl.runF
 split
 ·rename_i hc
  have hf:=Fs.won_fine (good_well (H.ok.bk i hi)) hw hc.2
  exact (Fs.fil_of hf s).le x hx
 ·have:=(Cv.ok_bounds ((H.ok.bk i hi).oks x hx))
  show (0:Int)≤0∧(0:Int)≤x.q
  omega
theorem fills_bd {wd h:Int} {r:Ro} (H:FAll r.L r.pf r.n wd h) {i:Nat} (hi:i < 3) (s p:Int):∀ q∈(tF wd r i s).map (fillR (r.L i) p),0≤q.q∧q.q≤1000000:=by
 intro q hq
 obtain ⟨f,hf,rfl⟩:=List.mem_map.1 hq
 obtain ⟨h1,x,hx,e⟩:=(tF_mem H hi s).2 f hf
 have h2:=Fs.got_mem_le (fun g hg=>((tF_mem H hi s).2 g hg).1) hf
 have h3:=(tF_le H hi s x hx).2
 have h4:=Cv.ok_bounds ((H.ok.bk i hi).oks x hx)
 rw [e] at h3
 show 0≤f.2∧f.2≤1000000
 omega
theorem rests_of {L:Nat→List Lot} {i:Nat} {pl:List Ask} {D:Int} (h:∀ a∈pl,a.id = D→a.it≠i):∀ q∈pl.flatMap (restR L i),q.id≠D:=by
 intro q hq
 obtain ⟨a,ha,hq⟩:=List.mem_flatMap.1 hq
 unfold restR at hq
 split at hq
 ·rename_i hc
  have e:q = tell kRest (Bk.getX (L i) a.id):=by simpa using hq
  rw [e]
  show (Bk.getX (L i) a.id).id≠D
  rw [getX_id hc.1]
  exact fun e2=>h a ha e2 hc.2
 ·cases hq
structure FreeP (D:Int) (P:List Rep) (r:Ro):Prop where
 ls:NoId r.L D
 pl:∀ a∈r.pl,a.id≠D
 rp:dp D r.rp = P
variable {D:Int} {P:List Rep} {r:Ro} {wd h:Int}
theorem FreeP.drop (H:FreeP D P r) (c:Nat):FreeP D P (dropR r c):=by
 refine ⟨fun i hi x hx=>H.ls i hi x (dL_mem _ _ _ _ hx),H.pl,?_⟩
 show dp D (r.rp++(Fl.dO c r.L 3).map (tell kGone)) = P
 rw [dp_more,H.rp]
 intro q hq
 obtain ⟨x,hx,rfl⟩:=List.mem_map.1 hq
 obtain ⟨j,hj,hx⟩:=dO_mem _ _ _ hx
 exact H.ls j hj x hx
theorem place_noId {L:Nat→List Lot} {pf:Nat→Int} {a:Ask} (hn:NoId L D) (ha:a.id≠D):NoId (Fl.placeL L pf a) D:=by
 intro i hi x hx
 unfold Fl.placeL at hx
 split at hx
 ·unfold upd at hx
  split at hx
  ·rename_i e
   rcases List.mem_append.1 hx with hx | hx
   ·rw [← e] at hx;exact hn i hi x hx
   ·rw [List.mem_singleton.1 hx];exact ha
  ·exact hn i hi x hx
 ·exact hn i hi x hx
theorem can_mem {L:Nat→List Lot} {a:Ask} {i:Nat} {x:Lot} (hx:x∈Fl.canL L a i):x∈L i:=by
 unfold Fl.canL at hx
 split at hx
 ·unfold upd at hx
  split at hx
  ·rename_i e;rw [e];exact del_mem hx
  ·exact hx
 ·exact hx
theorem canX_id {L:Nat→List Lot} {pf:Nat→Int} {a:Ask} (h:Fl.canC L pf a = 0):(Fl.canX L a).id = a.id:=by
 have h0:Fl.kindN a 99 = 0∧Fl.mine L a = true:=by
  unfold Fl.canC at h
  split at h
  ·rename_i hk
   split at h
   ·rename_i hm;exact ⟨hk,hm⟩
   ·cases h
  ·rename_i hk
   have:=Fl.kindN_pos hk
   omega
 unfold Fl.canX
 rw [if_pos h0]
 have hh:has (L a.it.toNat) a.id = true:=by
  have:=h0.2;unfold Fl.mine at this
  rw [Bool.and_eq_true] at this;exact this.1
 exact Bk.pos_id (Bk.pos_has.1 hh)
theorem askR_reps (r:Ro) (a:Ask):∃ b,(askR r a).rp = r.rp++b∧∀ q∈b,q.id = a.id:=by
 unfold askR
 split
 ·unfold placeR
  simp only
  split
  ·exact ⟨[],(List.append_nil _).symm,fun _ h=>by cases h⟩
  ·exact ⟨_,rfl,fun q hq=>by rw [List.mem_singleton.1 hq];rfl⟩
 ·unfold cancelR
  refine ⟨_,rfl,fun q hq=>?_⟩
  split at hq
  ·rename_i hc
   rw [List.mem_singleton.1 hq];exact canX_id hc
  ·rw [List.mem_singleton.1 hq];rfl
theorem askR_noId {a:Ask} (hn:NoId r.L D) (ha:a.id≠D):NoId (askR r a).L D:=by
 unfold askR
 split
 ·exact place_noId hn ha
 ·exact fun i hi x hx=>hn i hi x (can_mem hx)
theorem askR_pl (r:Ro) (a:Ask) {x:Ask} (h:x∈(askR r a).pl):x∈r.pl∨x = a:=by
 unfold askR at h
 split at h
 ·unfold placeR at h
  simp only at h
  split at h
  ·rcases List.mem_append.1 h with h | h
   ·exact .inl h
   ·exact .inr (List.mem_singleton.1 h)
  ·exact .inl h
 ·unfold cancelR at h
  simp only at h
  split at h
  ·exact .inl (List.mem_filter.1 h).1
  ·exact .inl h
theorem FreeP.ask (H:FreeP D P r) {a:Ask} (ha:a.id≠D):FreeP D P (askR r a):=by
 refine ⟨askR_noId H.ls ha,fun x hx=>?_,?_⟩
 ·rcases askR_pl r a hx with h1 | h1
  ·exact H.pl x h1
  ·rw [h1];exact ha
 ·obtain ⟨b,e,hb⟩:=askR_reps r a
  rw [e,dp_more _ (fun q hq=>by rw [hb q hq];exact ha),H.rp]
theorem trade_noId (hn:NoId r.L D) (i:Nat) (s:Int):NoId (tradeR wd h r i s).L D:=by
 intro j hj x hx
 have hx':x∈upd r.L i (Fs.restL (tF wd r i s) (r.L i)) j:=hx
 unfold upd at hx'
 split at hx'
 ·rename_i e
  obtain ⟨y,hy,e2⟩:=rest_mem hx'
  rw [e2];rw [e] at hj;exact hn i hj y hy
 ·exact hn j hj x hx'
theorem FreeP.trade (H:FreeP D P r) (HA:FAll r.L r.pf r.n wd h) {i:Nat} (hi:i < 3) (s:Int):FreeP D P (tradeR wd h r i s):=by
 refine ⟨trade_noId H.ls i s,H.pl,?_⟩
 show dp D (r.rp++((tF wd r i s).map (fillR (r.L i) (tP r i))++r.pl.flatMap (restR (Fl.runL r.L i (tF wd r i s)) i))) = P
 rw [dp_more,H.rp]
 intro q hq
 rcases List.mem_append.1 hq with hq | hq
 ·exact fills_of_lots HA hi s _ (H.ls i hi) q hq
 ·exact rests_of (fun a ha e=>absurd e (H.pl a ha)) q hq
structure Has1 (a:Ask) (r:Ro):Prop where
 inL:Fl.lot a∈r.L a.it.toNat
 on:∀ j,j < 3→∀ x∈r.L j,x.id = a.id→j = a.it.toNat∧x = Fl.lot a
 rp:dp a.id r.rp = []
 pl:(r.pl.filter fun x=>x.id == a.id) = [a]
theorem Has1.pl_mem {a:Ask} (H:Has1 a r) {x:Ask} (hx:x∈r.pl) (e:x.id = a.id):x = a:=by
 have:x∈r.pl.filter fun x=>x.id == a.id:=List.mem_filter.2 ⟨hx,by simpa using e⟩
 rw [H.pl] at this
 exact List.mem_singleton.1 this
theorem Has1.ask {a b:Ask} (H:Has1 a r) (hb:b.id≠a.id):Has1 a (askR r b):=by
 have hrp:dp a.id (askR r b).rp = []:=by
  obtain ⟨n,e,hn⟩:=askR_reps r b
  rw [e,dp_more _ (fun q hq=>by rw [hn q hq];exact hb),H.rp]
 by_cases hk:b.k = 111
 ·have e:askR r b = placeR r b:=if_pos hk
  rw [e] at hrp ⊢
  refine ⟨?_,?_,hrp,?_⟩
  ·show Fl.lot a∈Fl.placeL r.L r.pf b a.it.toNat
   unfold Fl.placeL
   split
   ·unfold upd
    split
    ·rename_i e;rw [← e];exact List.mem_append_left _ H.inL
    ·exact H.inL
   ·exact H.inL
  ·intro j hj x hx e
   have hx':x∈Fl.placeL r.L r.pf b j:=hx
   unfold Fl.placeL at hx'
   split at hx'
   ·unfold upd at hx'
    split at hx'
    ·rename_i e3
     rcases List.mem_append.1 hx' with h1 | h1
     ·rw [← e3] at h1;exact H.on j hj x h1 e
     ·rw [List.mem_singleton.1 h1] at e;exact absurd e hb
    ·exact H.on j hj x hx' e
   ·exact H.on j hj x hx' e
  ·unfold placeR
   simp only
   split
   ·rw [List.filter_append,H.pl]
    have:([b].filter fun x=>x.id == a.id) = []:=by simpa using hb
    rw [this,List.append_nil]
   ·exact H.pl
 ·have e:askR r b = cancelR r b:=if_neg hk
  rw [e] at hrp ⊢
  refine ⟨?_,fun j hj x hx e=>H.on j hj x (can_mem hx) e,hrp,?_⟩
  ·show Fl.lot a∈Fl.canL r.L b a.it.toNat
   unfold Fl.canL
   split
   ·rename_i hc
    unfold upd
    split
    ·rename_i e3
     rw [← e3]
     refine del_keep H.inL (fun e4=>hb ?_)
     have hh:has (r.L b.it.toNat) b.id = true:=by
      have:=hc.2;unfold Fl.mine at this
      rw [Bool.and_eq_true] at this;exact this.1
     rw [← e3] at hh
     have:=Bk.pos_id (Bk.pos_has.1 hh)
     rw [← e4] at this
     exact this.symm
    ·exact H.inL
   ·exact H.inL
  ·unfold cancelR
   simp only
   split
   ·unfold others
    rw [List.filter_filter,← H.pl]
    refine List.filter_congr fun x _=>?_
    by_cases e5:x.id = a.id
    ·have:¬ x.id = b.id:=fun e6=>hb (e6.symm.trans e5)
     simp [e5,show ¬ a.id = b.id from fun e6=>hb e6.symm]
    ·simp [e5]
   ·exact H.pl
def sumF:List Rep→Int
 | []=>0
 | r :: l=>(if r.k = kFill then r.q else 0) + sumF l
def sumR:List Rep→Int
 | []=>0
 | r :: l=>(if r.k = kRest then r.q else 0) + sumR l
theorem sumF_append:∀ a b:List Rep,sumF (a++b) = sumF a + sumF b
 | [],b=>by simp [sumF]
 | x :: a,b=>by simp [sumF,sumF_append a b];omega
theorem sumR_append:∀ a b:List Rep,sumR (a++b) = sumR a + sumR b
 | [],b=>by simp [sumR]
 | x :: a,b=>by simp [sumR,sumR_append a b];omega
structure Told (c q:Int) (P:List Rep):Prop where
 some:P≠[]
 mine:∀ r∈P,r.c = c∧r.k≠kRef
 sum:sumF P + sumR P = q
 bd:∀ r∈P,0≤r.q∧r.q≤1000000
structure Aft (a:Ask) (P:List Rep) (r:Ro):Prop where
 on:∀ j,j < 3→∀ x∈r.L j,x.id = a.id→j = a.it.toNat
 rp:dp a.id r.rp = P
 pl:∀ x∈r.pl,x.id = a.id→x.it = a.it
theorem Aft.trade {a:Ask} (H:Aft a P r) (HA:FAll r.L r.pf r.n wd h) {i:Nat} (hi:i < 3) (hne:(i:Int)≠a.it) (h0:0≤a.it) (s:Int):Aft a P (tradeR wd h r i s):=by
 refine ⟨fun j hj x hx e=>?_,?_,H.pl⟩
 ·have hx':x∈upd r.L i (Fs.restL (tF wd r i s) (r.L i)) j:=hx
  unfold upd at hx'
  split at hx'
  ·rename_i e3
   obtain ⟨y,hy,e2⟩:=rest_mem hx'
   rw [e3]
   exact H.on i hi y hy (by rw [← e2];exact e)
  ·exact H.on j hj x hx' e
 ·show dp a.id (r.rp++((tF wd r i s).map (fillR (r.L i) (tP r i))++r.pl.flatMap (restR (Fl.runL r.L i (tF wd r i s)) i))) = P
  rw [dp_more,H.rp]
  intro q hq
  rcases List.mem_append.1 hq with hq | hq
  ·exact fills_of_lots HA hi s _ (fun x hx e=>hne (by have:=H.on i hi x hx e;omega)) q hq
  ·exact rests_of (fun b hb e e2=>hne (by rw [← e2];exact H.pl b hb e)) q hq
theorem Has1.other {a:Ask} (H:Has1 a r) (HA:FAll r.L r.pf r.n wd h) {i:Nat} (hi:i < 3) (hne:(i:Int)≠a.it) (h0:0≤a.it) (s:Int):Has1 a (tradeR wd h r i s):=by
 have hni:i≠a.it.toNat:=by omega
 refine ⟨?_,fun j hj x hx e=>?_,?_,H.pl⟩
 ·show Fl.lot a∈upd r.L i (Fs.restL (tF wd r i s) (r.L i)) a.it.toNat
  rw [upd_ne _ _ (fun e=>hni e.symm)];exact H.inL
 ·have hx':x∈upd r.L i (Fs.restL (tF wd r i s) (r.L i)) j:=hx
  unfold upd at hx'
  split at hx'
  ·rename_i e3
   obtain ⟨y,hy,e2⟩:=rest_mem hx'
   exact absurd (H.on i hi y hy (by rw [← e2];exact e)).1 hni
  ·exact H.on j hj x hx' e
 ·show dp a.id (r.rp++((tF wd r i s).map (fillR (r.L i) (tP r i))++r.pl.flatMap (restR (Fl.runL r.L i (tF wd r i s)) i))) = []
  rw [dp_more,H.rp]
  intro q hq
  rcases List.mem_append.1 hq with hq | hq
  ·exact fills_of_lots HA hi s _ (fun x hx e=>hni (H.on i hi x hx e).1) q hq
  ·exact rests_of (fun b hb e e2=>hne (by rw [← e2,H.pl_mem hb e])) q hq
theorem ownT_at {l:List Lot} {x:Lot} (ho:Ra.Once l) (hx:x∈l):∀ k,k≤l.length→(∃ j,j < k∧nth l j = x)→ownT l k x.id = x.ow
 | 0,_,⟨j,hj,_⟩=>by omega
 | k + 1,hk,⟨j,hj,e⟩=>by
  unfold ownT
  split
  ·rename_i e2
   have:nth l k = x:=Ra.once_eq ho (Fs.nth_mem (by omega)) hx e2.symm
   rw [this]
  ·rename_i hne
   refine ownT_at ho hx k (by omega) ⟨j,?_,e⟩
   rcases Nat.lt_or_ge j k with h1 | h1
   ·exact h1
   ·have:j = k:=by omega
    rw [← this,e] at hne;exact absurd rfl hne
theorem ownT_all {l:List Lot} {x:Lot} (ho:Ra.Once l) (hx:x∈l):ownT l l.length x.id = x.ow:=by
 obtain ⟨j,hj,e⟩:=List.getElem_of_mem hx
 exact ownT_at ho hx l.length (Nat.le_refl _) ⟨j,hj,by rw [Bk.nth_get hj];exact e⟩
theorem dp_fills {l:List Lot} {D p c:Int} (hc:ownT l l.length D = c):∀ F:List (Int × Int),(∀ f∈F,1≤f.2) →
  (∀ r∈dp D (F.map (fillR l p)),r.c = c∧r.k = kFill)∧sumF (dp D (F.map (fillR l p))) = Ra.got D F∧(1≤Ra.got D F→dp D (F.map (fillR l p))≠[])∧sumR (dp D (F.map (fillR l p))) = 0
 | [],_=>⟨fun _ h=>(by cases h),rfl,fun h=>absurd h (by unfold Ra.got;decide),rfl⟩
 | f :: F,hF=>by
  obtain ⟨h1,h2,h3,h4⟩:=dp_fills (p:=p) hc F (fun g hg=>hF g (List.mem_cons_of_mem _ hg))
  have h0:=hF f List.mem_cons_self
  by_cases e:f.1 = D
  ·have ed:dp D ((f :: F).map (fillR l p)) = fillR l p f :: dp D (F.map (fillR l p)):=by
    unfold dp;rw [List.map_cons,List.filter_cons,if_pos (by simpa [fillR] using e)]
   have eg:Ra.got D (f :: F) = f.2 + Ra.got D F:=by rw [Ra.got,if_pos e]
   rw [ed,eg]
   refine ⟨fun r hr=>?_,?_,fun _=>List.cons_ne_nil _ _,?_⟩
   ·rcases List.mem_cons.1 hr with hr | hr
    ·rw [hr];exact ⟨by show ownT l l.length f.1 = c;rw [e,hc],rfl⟩
    ·exact h1 r hr
   ·rw [sumF,if_pos (show (fillR l p f).k = kFill from rfl),h2];rfl
   ·rw [sumR,if_neg (show ¬ (fillR l p f).k = kRest by show ¬ kFill = kRest;decide),h4];rfl
  ·have ed:dp D ((f :: F).map (fillR l p)) = dp D (F.map (fillR l p)):=by
    unfold dp;rw [List.map_cons,List.filter_cons,if_neg (by simpa [fillR] using e)]
   have eg:Ra.got D (f :: F) = Ra.got D F:=by rw [Ra.got,if_neg e];omega
   rw [ed,eg]
   exact ⟨h1,h2,h3,h4⟩
theorem dp_rests {L:Nat→List Lot} {i:Nat} {a:Ask}:∀ pl:List Ask,(pl.filter fun x=>x.id == a.id) = [a]→dp a.id (pl.flatMap (restR L i)) = restR L i a:=by
 have one:∀ b:Ask,b.id≠a.id→dp a.id (restR L i b) = []:=fun b hb=>dp_none fun r hr=>by
  have:=rests_of (L:=L) (i:=i) (pl:=[b]) (D:=a.id) (fun x hx e=>absurd e (by rw [List.mem_singleton.1 hx];exact hb)) r (by simpa using hr)
  exact this
 have own:dp a.id (restR L i a) = restR L i a:=by
  unfold restR
  split
  ·rename_i hc
   unfold dp
   rw [List.filter_cons,if_pos (by show ((Bk.getX (L i) a.id).id == a.id) = true;rw [getX_id hc.1];simp)]
   rfl
  ·rfl
 have none:∀ pl:List Ask,(pl.filter fun x=>x.id == a.id) = []→dp a.id (pl.flatMap (restR L i)) = []:=fun pl h=>dp_none (rests_of fun x hx e=>by
  have:x∈pl.filter fun x=>x.id == a.id:=List.mem_filter.2 ⟨hx,by simpa using e⟩
  rw [h] at this;cases this)
 intro pl
 induction pl with
 | nil=>intro h;cases h
 | cons b pl ih =>
  intro h
  rw [List.flatMap_cons,dp_append]
  by_cases e:b.id = a.id
  ·rw [List.filter_cons,if_pos (by simpa using e)] at h
   obtain ⟨h1,h2⟩:=List.cons.inj h
   rw [h1,own,none pl h2,List.append_nil]
  ·rw [List.filter_cons,if_neg (by simpa using e)] at h
   rw [one b e,ih h,List.nil_append]
theorem Has1.trade {a:Ask} (H:Has1 a r) (HA:FAll r.L r.pf r.n wd h) {i:Nat} (hi:i < 3) (he:a.it = (i:Int)) (s:Int):∃ P,Told a.c a.q P∧Aft a P (tradeR wd h r i s):=by
 have hit:a.it.toNat = i:=by omega
 have hin:=H.inL
 rw [hit] at hin
 have hon:=(HA.ok.bk i hi).once
 obtain ⟨_,hmem⟩:=tF_mem HA hi s
 have how:=ownT_all hon hin
 obtain ⟨f1,f2,f3,f4⟩:=dp_fills (D:=a.id) (p:=tP r i) how (tF wd r i s) (fun f hf=>(hmem f hf).1)
 have hre:=dp_rests (L:=Fl.runL r.L i (tF wd r i s)) (i:=i) r.pl H.pl
 have hL:Fl.runL r.L i (tF wd r i s) i = Fs.restL (tF wd r i s) (r.L i):=upd_same _ _ _
 obtain ⟨g1,g2⟩:(Ra.got a.id (tF wd r i s) < a.q→has (Fs.restL (tF wd r i s) (r.L i)) a.id = true∧nth (Fs.restL (tF wd r i s) (r.L i)) (Bk.pos (Fs.restL (tF wd r i s) (r.L i)) a.id) = Bk.less (Fl.lot a) (Ra.got a.id (tF wd r i s)))∧(¬ Ra.got a.id (tF wd r i s) < a.q→has (Fs.restL (tF wd r i s) (r.L i)) a.id = false):=Fs.rest_get hon (tF wd r i s) hin
 have eP:dp a.id (tradeR wd h r i s).rp = dp a.id ((tF wd r i s).map (fillR (r.L i) (tP r i)))++restR (Fl.runL r.L i (tF wd r i s)) i a:=by
  show dp a.id (r.rp++((tF wd r i s).map (fillR (r.L i) (tP r i))++r.pl.flatMap (restR (Fl.runL r.L i (tF wd r i s)) i))) = _
  rw [dp_append,H.rp,List.nil_append,dp_append,hre]
 have hok:=Cv.ok_bounds ((HA.ok.bk i hi).oks _ hin)
 have hg0:0≤Ra.got a.id (tF wd r i s):=((tF_le HA hi s) (Fl.lot a) hin).1
 have hqq:(Fl.lot a).q = a.q:=rfl
 have hfb:∀ q∈dp a.id ((tF wd r i s).map (fillR (r.L i) (tP r i))),0≤q.q∧q.q≤1000000:=fun q hq=>fills_bd HA hi s _ q (List.mem_filter.1 hq).1
 refine ⟨_,?_,⟨fun j hj x hx e=>?_,eP,fun x hx e=>by rw [H.pl_mem hx e]⟩⟩
 ·by_cases hlt:Ra.got a.id (tF wd r i s) < a.q
  ·obtain ⟨h1,h2⟩:=g1 hlt
   have er:restR (Fl.runL r.L i (tF wd r i s)) i a = [tell kRest (Bk.less (Fl.lot a) (Ra.got a.id (tF wd r i s)))]:=by
    unfold restR
    rw [hL,if_pos ⟨h1,he⟩]
    have:Bk.getX (Fs.restL (tF wd r i s) (r.L i)) a.id = nth (Fs.restL (tF wd r i s) (r.L i)) (Bk.pos (Fs.restL (tF wd r i s) (r.L i)) a.id):=by unfold Bk.getX;rw [if_pos h1]
    rw [this]
    exact congrArg (fun x=>[tell kRest x]) h2
   rw [er]
   refine ⟨by simp,fun q hq=>?_,?_,fun q hq=>?_⟩
   ·rcases List.mem_append.1 hq with hq | hq
    ·obtain ⟨e1,e2⟩:=f1 q hq
     exact ⟨e1,by rw [e2];decide⟩
    ·rw [List.mem_singleton.1 hq];exact ⟨rfl,by show ¬ kRest = kRef;decide⟩
   ·rw [sumF_append,sumR_append,f2,f4]
    have e1:sumF [tell kRest (Bk.less (Fl.lot a) (Ra.got a.id (tF wd r i s)))] = 0:=by
     unfold sumF;rw [if_neg (by show ¬ kRest = kFill;decide)];rfl
    have e2:sumR [tell kRest (Bk.less (Fl.lot a) (Ra.got a.id (tF wd r i s)))] = a.q - Ra.got a.id (tF wd r i s):=by
     unfold sumR;rw [if_pos (show (tell kRest _).k = kRest from rfl)]
     show a.q - Ra.got a.id (tF wd r i s) + sumR [] = _
     show a.q - Ra.got a.id (tF wd r i s) + 0 = _
     omega
    rw [e1,e2];omega
   ·rcases List.mem_append.1 hq with hq | hq
    ·exact hfb q hq
    ·rw [List.mem_singleton.1 hq]
     show 0≤a.q - Ra.got a.id (tF wd r i s)∧a.q - Ra.got a.id (tF wd r i s)≤1000000
     omega
  ·have h1:=g2 hlt
   have er:restR (Fl.runL r.L i (tF wd r i s)) i a = []:=by
    unfold restR
    rw [hL,if_neg (fun hc=>by have:=hc.1;rw [h1] at this;cases this)]
   have hle:Ra.got a.id (tF wd r i s)≤a.q:=by
    exact ((tF_le HA hi s) (Fl.lot a) hin).2
   rw [er,List.append_nil]
   refine ⟨f3 (by omega),fun q hq=>?_,?_,hfb⟩
   ·obtain ⟨e1,e2⟩:=f1 q hq
    exact ⟨e1,by rw [e2];decide⟩
   ·rw [f2,f4];omega
 ·have hx':x∈upd r.L i (Fs.restL (tF wd r i s) (r.L i)) j:=hx
  unfold upd at hx'
  split at hx'
  ·rename_i e3;rw [e3,hit]
  ·exact (H.on j hj x hx' e).1
end Ve
namespace Ve
open Cv
structure Qt (wd h:Int) (c:Nat) (D:Int) (l:List Ask) (S:St):Prop where
 dn:S.down = false
 cu:S.cut = false
 lf:∀ n,n < 6→S.lf n = ⟨#[]⟩
 q:S.Q c = l
 qs:∀ n,n < 6→n≠c→∀ a∈S.Q n,a.id≠D
 ls:NoId S.L D
 tp:S.tp.length≤1000 * S.bt
 tn:S.t < 6
 bt:S.bt≤S.now
 all:FAll S.L S.pf S.n wd h
variable {wd h seed:Int} {c:Nat} {D:Int} {l:List Ask} {S:St}
theorem Qt.hear (H:Qt wd h c D l S) {n:Nat} (hn:n < 6) (hne:n≠c) (f:ByteArray) (hf:decCode f = 0→(askOf f).id≠D):Qt wd h c D l (hearS S n f)∧(hearS S n f).on c = S.on c:=by
 have hon:(taken S n (askOf f)).on c = S.on c:=by unfold taken;exact upd_ne _ _ (fun e=>hne e.symm)
 unfold hearS
 split
 ·rename_i hd
  have hid:=hf hd
  split
  ·rename_i ht
   generalize askOf f = a at *
   have hac:a.c = (n:Int):=by
    unfold takeC at ht
    split at ht
    ·assumption
    ·cases ht
   split
   ·refine ⟨⟨H.dn,H.cu,H.lf,?_,fun m hm hmc x hx=>?_,H.ls,H.tp,H.tn,H.bt,H.all⟩,hon⟩
    ·show Ik.putL S.Q a c = l
     unfold Ik.putL
     split
     ·rw [hac];unfold Ik.upd;rw [if_neg (by omega)];exact H.q
     ·exact H.q
    ·have hx':x∈Ik.putL S.Q a m:=hx
     unfold Ik.putL at hx'
     split at hx'
     ·unfold Ik.upd at hx'
      split at hx'
      ·rename_i e
       rw [← e] at hx'
       rcases List.mem_append.1 hx' with h1 | h1
       ·exact H.qs m hm hmc x h1
       ·rw [List.mem_singleton.1 h1];exact hid
      ·exact H.qs m hm hmc x hx'
     ·exact H.qs m hm hmc x hx'
   ·split
    ·refine ⟨⟨H.dn,H.cu,H.lf,?_,fun m hm hmc x hx=>?_,H.ls,H.tp,H.tn,H.bt,H.all⟩,hon⟩
     ·show Ik.clearL S.Q n c = l
      rw [clear_at _ hn,if_neg (fun e=>hne e.symm)];exact H.q
     ·have hx':x∈Ik.clearL S.Q n m:=hx
      rw [clear_at _ hn] at hx'
      split at hx'
      ·cases hx'
      ·exact H.qs m hm hmc x hx'
    ·exact ⟨⟨H.dn,H.cu,H.lf,H.q,H.qs,H.ls,H.tp,H.tn,H.bt,H.all⟩,hon⟩
  ·exact ⟨H,rfl⟩
 ·exact ⟨H,rfl⟩
theorem Qt.hears (H:Qt wd h c D l S) {n:Nat} (hn:n < 6) (hne:n≠c) (b:ByteArray):∀ k,(∀ j,j < k→decCode (fr b j) = 0→(askOf (fr b j)).id≠D)→Qt wd h c D l (hearsS S n b k)∧(hearsS S n b k).on c = S.on c
 | 0,_=>⟨H,rfl⟩
 | k + 1,hf=>by
  obtain ⟨h1,h2⟩:=Qt.hears H hn hne b k (fun j hj=>hf j (by omega))
  obtain ⟨h3,h4⟩:=h1.hear hn hne (fr b k) (hf k (by omega))
  exact ⟨h3,h4.trans h2⟩
theorem empty_of {b:ByteArray} (h:b.size = 0):b = ⟨#[]⟩:=by
 obtain ⟨d⟩:=b
 have:d = #[]:=Array.size_eq_zero_iff.1 h
 rw [this]
theorem Qt.feed (H:Qt wd h c D l S) {n:Int} (hne:n≠(c:Int)) {b:ByteArray} (hb:b.size % 30 = 0) (hf:∀ j,j < b.size / 30→decCode (fr b j) = 0→(askOf (fr b j)).id≠D):Qt wd h c D l (feedS S n b)∧(feedS S n b).on c = S.on c:=by
 unfold feedS
 split
 ·exact ⟨H,rfl⟩
 ·rename_i hc
  have hn:n.toNat < 6∧0≤n:=by
   have:Wi.withinB n 0 5 = true:=by
    cases hw:Wi.withinB n 0 5 with
    | true=>rfl
    | false=>exact absurd (.inr hw) hc
   unfold Wi.withinB at this;simp at this;omega
  have e:S.lf n.toNat++b = b:=by rw [H.lf _ hn.1];exact ByteArray.empty_append
  have er:restB b = ⟨#[]⟩:=empty_of (by rw [rest_sz];omega)
  rw [e]
  have H':Qt wd h c D l (fedS S n.toNat b):=by
   refine ⟨H.dn,H.cu,fun m hm=>?_,H.q,H.qs,H.ls,H.tp,H.tn,H.bt,H.all⟩
   show upd S.lf n.toNat (restB b) m = _
   unfold upd
   split
   ·exact er
   ·exact H.lf m hm
  obtain ⟨h1,h2⟩:=H'.hears hn.1 (fun e=>hne (by omega)) b (b.size / 30) hf
  exact ⟨h1,h2⟩
theorem frames_of (l:List Ask):∀ k,k≤l.length→(stepTo ⟨#[]⟩ l k).size % 30 = 0∧∀ j,j < (stepTo ⟨#[]⟩ l k).size / 30→∃ a∈l,Se.ac a = 0∧fr (stepTo ⟨#[]⟩ l k) j = frameOf a
 | 0,_=>⟨rfl,fun j hj=>absurd hj (by show ¬ j < 0 / 30;omega)⟩
 | k + 1,hk=>by
  obtain ⟨h1,h2⟩:=frames_of l k (by omega)
  have hm:anth l k∈l:=by
   unfold anth
   rw [List.getD_eq_getElem?_getD,List.getElem?_eq_getElem (by omega)]
   exact List.getElem_mem _
  show (stepTo ⟨#[]⟩ l k++frameOf (anth l k)).size % 30 = 0∧∀ j,j < (stepTo ⟨#[]⟩ l k++frameOf (anth l k)).size / 30→∃ a∈l,Se.ac a = 0∧fr (stepTo ⟨#[]⟩ l k++frameOf (anth l k)) j = frameOf a
  generalize stepTo ⟨#[]⟩ l k = b at *
  by_cases hc:Se.ac (anth l k) = 0
  ·obtain ⟨_,_,h3⟩:=frame_back hc
   have hs:(b++frameOf (anth l k)).size = b.size + 30:=by rw [ByteArray.size_append,h3]
   refine ⟨by rw [hs];omega,fun j hj=>?_⟩
   rw [hs] at hj
   by_cases hj2:j < b.size / 30
   ·obtain ⟨a,h4,h5,h6⟩:=h2 j hj2
    exact ⟨a,h4,h5,by rw [fr_left b _ j (by omega)];exact h6⟩
   ·have ej:j = b.size / 30 + 0:=by omega
    refine ⟨anth l k,hm,hc,?_⟩
    rw [ej,fr_right b _ 0 (by rw [hs];omega),empty_of (show (restB b).size = 0 by rw [rest_sz];omega)]
    have:(⟨#[]⟩:ByteArray)++frameOf (anth l k) = frameOf (anth l k):=ByteArray.empty_append
    rw [this]
    unfold fr
    rw [← h3]
    simp
  ·have e:frameOf (anth l k) = ⟨#[]⟩:=by unfold frameOf encText;exact if_neg hc
   rw [e,show b++(⟨#[]⟩:ByteArray) = b from ByteArray.append_empty]
   exact ⟨h1,h2⟩
theorem Qt.step (H:Qt wd h c D l S) {n:Int} (hne:n≠(c:Int)) (la:List Ask) (hid:∀ a∈la,a.id≠D):Qt wd h c D l (feedS S n (stepTo ⟨#[]⟩ la la.length))∧(feedS S n (stepTo ⟨#[]⟩ la la.length)).on c = S.on c:=by
 obtain ⟨h1,h2⟩:=frames_of la la.length (Nat.le_refl _)
 refine H.feed hne h1 (fun j hj _=>?_)
 obtain ⟨a,ha,hc,e⟩:=h2 j hj
 rw [e,(frame_back hc).2.1]
 exact hid a ha
theorem Qt.hang (H:Qt wd h c D l S) {n:Nat} (hn:n < 6) (hl:Se.late (S.on c) (S.la c) S.now = false):Qt wd h c D l (hang S n)∧(hang S n).on c = S.on c∧(hang S n).la c = S.la c∧(hang S n).now = S.now:=by
 unfold Ve.hang
 split
 ·rename_i ht
  have hne:c≠n:=fun e=>by subst e;rw [hl] at ht;cases ht
  refine ⟨⟨H.dn,H.cu,fun m hm=>?_,?_,fun m hm hmc x hx=>?_,H.ls,H.tp,H.tn,H.bt,H.all⟩,upd_ne _ _ hne,upd_ne _ _ hne,rfl⟩
  ·show upd S.lf n ByteArray.empty m = _
   unfold upd
   split
   ·rfl
   ·exact H.lf m hm
  ·show Ik.clearL S.Q n c = l
   rw [clear_at _ hn,if_neg hne];exact H.q
  ·have hx':x∈Ik.clearL S.Q n m:=hx
   rw [clear_at _ hn] at hx'
   split at hx'
   ·cases hx'
   ·exact H.qs m hm hmc x hx'
 ·exact ⟨H,rfl,rfl,rfl⟩
theorem Qt.hangs (H:Qt wd h c D l S) (hl:Se.late (S.on c) (S.la c) S.now = false):∀ k,k≤6→Qt wd h c D l (hangs S k)∧(hangs S k).on c = S.on c∧(hangs S k).la c = S.la c∧(hangs S k).now = S.now
 | 0,_=>⟨H,rfl,rfl,rfl⟩
 | k + 1,hk=>by
  obtain ⟨h1,h2,h3,h4⟩:=Qt.hangs H hl k (by omega)
  obtain ⟨g1,g2,g3,g4⟩:=h1.hang (show k < 6 by omega) (by rw [h2,h3,h4];exact hl)
  exact ⟨g1,g2.trans h2,g3.trans h3,g4.trans h4⟩
theorem Qt.tocks (H:Qt wd h c D l S) (hl:Se.late (S.on c) (S.la c) ((S.now + 1:Nat):Int) = false):Qt wd h c D l (tocks S)∧(tocks S).on c = S.on c∧(tocks S).la c = S.la c∧(tocks S).now = S.now + 1 :=
 Qt.hangs (S:={ S with now:=S.now + 1 }) ⟨H.dn,H.cu,H.lf,H.q,H.qs,H.ls,H.tp,H.tn,Nat.le_succ_of_le H.bt,H.all⟩ hl 6 (Nat.le_refl _)
theorem recB_sz (bt:Nat) (ds:List Nat) (l:List Ask) (hb:bt≤1000000) (hd:∀ d∈ds,d < 6) (hl:ds.length≤6) (ha:l.length≤12):(recB bt ds l).size≤980:=by
 unfold recB recI
 rw [strOfNums_size]
 have h1:=dec_len (bt:Int) (by omega) (by omega)
 have h2:=recD_len ds hd ds.length
 have h3:=recA_len l l.length
 simp only [List.length_append,List.length_singleton]
 omega
theorem dropsTo_ok (dr:Nat→Bool):∀ k,(dropsTo dr k).length≤k∧∀ d∈dropsTo dr k,d < k
 | 0=>⟨Nat.le_refl _,fun _ h=>by cases h⟩
 | k + 1=>by
  obtain ⟨h1,h2⟩:=dropsTo_ok dr k
  refine ⟨?_,fun d hd=>?_⟩
  ·rw [dropsTo,List.length_append]
   split <;> simp <;> omega
  ·rw [dropsTo,List.mem_append] at hd
   rcases hd with hd | hd
   ·exact Nat.lt_succ_of_lt (h2 d hd)
   ·split at hd
    ·rw [List.mem_singleton.1 hd];omega
    ·cases hd
theorem Qt.app (H:Qt wd h c D l S) (hb:S.bt≤1000) {s:ByteArray} (hs:s.size≤980):appOk S s = true∧appS S s = { S with tp:=S.tp++Tp.rec s.data.toList }:=by
 have hf:full S s = false:=by
  unfold full
  have:=H.tp
  simp;omega
 refine ⟨by unfold appOk;rw [hf,H.cu];rfl,?_⟩
 unfold appS
 rw [if_neg (by rw [hf];decide),if_neg (by rw [H.cu];decide),if_neg (by rw [H.cu];decide)]
theorem recS_sz (S:St) (hb:S.bt≤1000):(recS S).size≤980:=by
 obtain ⟨h1,h2⟩:=dropsTo_ok S.dr 6
 exact recB_sz S.bt _ _ (by omega) h2 h1 (ouN_len S.Q S.t 6)
theorem Qt.drained (H:Qt wd h c D l S):Qt wd h c D (l.drop 2) (drained S)∨6≤c:=by
 by_cases hc:c < 6
 ·refine .inl ⟨H.dn,H.cu,H.lf,?_,fun m hm hmc x hx=>?_,H.ls,H.tp,Ik.who_lt _ _,H.bt,H.all⟩
  ·show Ik.drL S.Q S.t c = _
   rw [Ik.drL_at _ H.tn hc,H.q]
  ·have hx':x∈Ik.drL S.Q S.t m:=hx
   rw [Ik.drL_at _ H.tn hm] at hx'
   exact H.qs m hm hmc x (List.mem_of_mem_drop hx')
 ·exact .inr (by omega)
theorem asks_fold (r:Ro) (l:List Ask):∀ k,k≤l.length→asksR r l k = (l.take k).foldl askR r
 | 0,_=>rfl
 | k + 1,hk=>by
  rw [asksR,asks_fold r l k (by omega),List.take_succ_eq_append_getElem (by omega),List.foldl_append]
  unfold anth
  rw [List.getD_eq_getElem?_getD,List.getElem?_eq_getElem (by omega)]
  rfl
theorem asks_all (r:Ro) (l:List Ask):asksR r l l.length = l.foldl askR r:=by
 rw [asks_fold r l l.length (Nat.le_refl _),List.take_length]
theorem FreeP.asks {P:List Rep}:∀ {r:Ro} (l:List Ask),FreeP D P r→(∀ a∈l,a.id≠D)→FreeP D P (l.foldl askR r)
 | _,[],H,_=>H
 | _,a :: l,H,hl=>FreeP.asks l (H.ask (hl a List.mem_cons_self)) (fun b hb=>hl b (List.mem_cons_of_mem _ hb))
theorem FreeP.drops {P:List Rep} {r:Ro} (H:FreeP D P r) (ds:List Nat):∀ k,FreeP D P (dropsR r ds k)
 | 0=>H
 | k + 1=>(FreeP.drops H ds k).drop _
theorem FreeP.trades {P:List Rep} {r:Ro} (H:FreeP D P r) (HA:All wd h r) (bt:Nat):∀ k,k≤3→FreeP D P (tradesR wd h seed bt r k)
 | 0,_=>H
 | k + 1,hk=>(FreeP.trades H HA bt k (by omega)).trade (HA.trades seed bt k (by omega)) (by omega) _
theorem Has1.asks {a:Ask}:∀ {r:Ro} (l:List Ask),Has1 a r→(∀ b∈l,b.id≠a.id)→Has1 a (l.foldl askR r)
 | _,[],H,_=>H
 | _,b :: l,H,hl=>Has1.asks l (H.ask (hl b List.mem_cons_self)) (fun x hx=>hl x (List.mem_cons_of_mem _ hx))
theorem Qt.batch0 (H:Qt wd h c D [] S) (hc:c < 6) (hb:S.bt < S.now) (hn:S.now≤1000):Qt wd h c D [] (batchS wd h seed S):=by
 have H1:Qt wd h c D [] (Ve.drained S):=by
  rcases H.drained with h1 | h1
  ·exact h1
  ·omega
 have hsz:=recS_sz S (by omega)
 obtain ⟨h2,h3⟩:=H1.app (show S.bt≤1000 by omega) hsz
 have hout:∀ a∈Ik.out S.Q S.t,a.id≠D:=fun a ha=>by
  obtain ⟨m,hm,ha⟩:=out_mem H.tn 6 (Nat.le_refl _) a ha
  by_cases e:m = c
  ·rw [e,H.q] at ha;cases ha
  ·exact H.qs m hm e a ha
 unfold batchS
 rw [if_pos h2,h3]
 have HA:All wd h (start { Ve.drained S with tp:=(Ve.drained S).tp++Tp.rec (recS S).data.toList }):=H.all
 have HF:FreeP D [] (start { Ve.drained S with tp:=(Ve.drained S).tp++Tp.rec (recS S).data.toList }):=⟨H.ls,fun _ h=>(by cases h),rfl⟩
 have hA2:=(HA.drops (dropsTo S.dr 6) (dropsTo S.dr 6).length).asks (Ik.out S.Q S.t) (Ik.out S.Q S.t).length
 have hF2:=FreeP.asks (Ik.out S.Q S.t) (HF.drops (dropsTo S.dr 6) (dropsTo S.dr 6).length) hout
 rw [← asks_all] at hF2
 have hF3:=hF2.trades (seed:=seed) hA2 S.bt 3 (Nat.le_refl _)
 have hA3:=hA2.trades seed S.bt 3 (Nat.le_refl _)
 refine ⟨H1.dn,H1.cu,H1.lf,H1.q,H1.qs,hF3.ls,?_,H1.tn,hb,hA3⟩
 show (S.tp++Tp.rec (recS S).data.toList).length≤1000 * (S.bt + 1)
 have h5:(Tp.rec (recS S).data.toList).length = 12 + (recS S).size:=by rw [Tp.rec_length];rfl
 rw [List.length_append,h5]
 have:=H.tp
 omega
theorem Qt.tick0 (H:Qt wd h c D [] S) (hc:c < 6) (hon:S.on c = false) (hn:S.now < 1000):Qt wd h c D [] (tickS wd h seed S)∧(tickS wd h seed S).on c = false∧(tickS wd h seed S).now = S.now + 1:=by
 have hl:Se.late (S.on c) (S.la c) ((S.now + 1:Nat):Int) = false:=by rw [hon];rfl
 obtain ⟨h1,h2,_,h4⟩:=H.tocks hl
 obtain ⟨t1,_,t3⟩:=tick_on wd h seed S H.dn
 refine ⟨?_,by rw [t1,h2];exact hon,t3⟩
 unfold tickS
 rw [if_neg (by rw [H.dn];decide)]
 split
 ·refine h1.batch0 hc ?_ (by rw [h4];omega)
  have hbt:(Ve.tocks S).bt = S.bt:=(hangs_now _ 6).2.1
  rw [h4,hbt];have:=H.bt;omega
 ·exact h1
theorem Qt.ticks0 (H:Qt wd h c D [] S) (hc:c < 6) (hon:S.on c = false):∀ k,S.now + k≤1000→Qt wd h c D [] (ticksS wd h seed S k)∧(ticksS wd h seed S k).on c = false∧(ticksS wd h seed S k).now = S.now + k
 | 0,_=>⟨H,hon,rfl⟩
 | k + 1,hk=>by
  obtain ⟨h1,h2,h3⟩:=Qt.ticks0 H hc hon k (by omega)
  obtain ⟨g1,g2,g3⟩:=h1.tick0 (seed:=seed) hc h2 (by rw [h3];omega)
  exact ⟨g1,g2,by show (tickS wd h seed (ticksS wd h seed S k)).now = _;rw [g3,h3];omega⟩
theorem out_split {Q:Nat→List Ask} {t:Nat} (ht:t < 6) {a:Ask} (hc:c < 6) (hq:Q c = [a]) (hqs:∀ n,n < 6→n≠c→∀ x∈Q n,x.id≠a.id):∃ l1 l2,Ik.out Q t = l1++a :: l2∧(∀ x∈l1,x.id≠a.id)∧∀ x∈l2,x.id≠a.id:=by
 have key:∀ k,k≤6→(k≤(c + 6 - t) % 6∧∀ x∈Ik.ouN Q t k,x.id≠a.id)∨∃ l1 l2,Ik.ouN Q t k = l1++a :: l2∧(∀ x∈l1,x.id≠a.id)∧∀ x∈l2,x.id≠a.id:=by
  intro k
  induction k with
  | zero=>exact fun _=>.inl ⟨Nat.zero_le _,fun _ h=>by cases h⟩
  | succ k ih =>
   intro hk
   rw [Ik.ouN_succ Q ht (by omega)]
   rcases ih (by omega) with ⟨h1,h2⟩ | ⟨l1,l2,e,h1,h2⟩
   ·by_cases hw:Ik.who t k = c
    ·refine .inr ⟨Ik.ouN Q t k,[],by rw [hw,hq];rfl,h2,fun _ h=>by cases h⟩
    ·refine .inl ⟨?_,fun x hx=>?_⟩
     ·unfold Ik.who at hw;omega
     ·rcases List.mem_append.1 hx with hx | hx
      ·exact h2 x hx
      ·exact hqs _ (Ik.who_lt t k) hw x (List.mem_of_mem_take hx)
   ·by_cases hw:Ik.who t k = c
    ·exfalso
     have hlt:(c + 6 - t) % 6 = k:=by unfold Ik.who at hw;omega
     have hnone:∀ j,j≤k→∀ x∈Ik.ouN Q t j,x.id≠a.id:=by
      intro j
      induction j with
      | zero=>exact fun _ _ h=>by cases h
      | succ j ihj =>
       intro hj x hx
       rw [Ik.ouN_succ Q ht (by omega)] at hx
       rcases List.mem_append.1 hx with hx | hx
       ·exact ihj (by omega) x hx
       ·exact hqs _ (Ik.who_lt t j) (by unfold Ik.who;omega) x (List.mem_of_mem_take hx)
     exact hnone k (Nat.le_refl _) a (by rw [e];simp) rfl
    ·refine .inr ⟨l1,l2++(Q (Ik.who t k)).take 2,by rw [e,List.append_assoc,List.cons_append],h1,fun x hx=>?_⟩
     rcases List.mem_append.1 hx with hx | hx
     ·exact h2 x hx
     ·exact hqs _ (Ik.who_lt t k) hw x (List.mem_of_mem_take hx)
 rcases key 6 (Nat.le_refl _) with ⟨h1,_⟩ | h1
 ·exact absurd h1 (by have:=Nat.mod_lt (c + 6 - t) (show 0 < 6 by decide);omega)
 ·exact h1
def Heard (a:Ask) (P:List Rep):Prop:=Told a.c a.q P∨∃ e:Nat,0 < e∧P = [refu a.c a.id e]
theorem round_told {r:Ro} {a:Ask} (HA:All wd h r) (HF:FreeP a.id [] r) (hk:a.k = 111) (ha:Se.ac a = 0) {l1 l2:List Ask} (h1:∀ x∈l1,x.id≠a.id) (h2:∀ x∈l2,x.id≠a.id) (bt:Nat) :
  Heard a (dp a.id (tradesR wd h seed bt (asksR r (l1++a :: l2) (l1++a :: l2).length) 3).rp):=by
 have hkn:Fl.kindN a 111 = 0:=by unfold Fl.kindN;rw [if_neg (fun hh=>hh.2 hk)];have:Se.ac a = 0:=ha;unfold Se.ac at this;omega
 have hit:=Fl.place_item hkn
 have HA2:=HA.asks (l1++a :: l2) (l1++a :: l2).length
 have e:asksR r (l1++a :: l2) (l1++a :: l2).length = l2.foldl askR (askR (l1.foldl askR r) a):=by rw [asks_all,List.foldl_append];rfl
 rw [e] at HA2 ⊢
 have F1:=HF.asks l1 h1
 generalize l1.foldl askR r = r1 at *
 have ea:askR r1 a = placeR r1 a:=if_pos hk
 rw [ea] at HA2 ⊢
 by_cases hp:Fl.placeC r1.L r1.pf a = 0
 ·have G1:Has1 a (placeR r1 a):=by
   have eL:(placeR r1 a).L = upd r1.L a.it.toNat (r1.L a.it.toNat++[Fl.lot a]):=by show Fl.placeL r1.L r1.pf a = _;unfold Fl.placeL;rw [if_pos hp]
   refine ⟨by rw [eL,upd_same];simp,fun j hj x hx ex=>?_,?_,?_⟩
   ·rw [eL] at hx
    unfold upd at hx
    split at hx
    ·rename_i ej
     rcases List.mem_append.1 hx with hx | hx
     ·rw [← ej] at hx;exact absurd ex (F1.ls j hj x hx)
     ·exact ⟨ej,List.mem_singleton.1 hx⟩
    ·exact absurd ex (F1.ls j hj x hx)
   ·show dp a.id (if Fl.placeC r1.L r1.pf a = 0 then r1.rp else _) = []
    rw [if_pos hp];exact F1.rp
   ·show ((if Fl.placeC r1.L r1.pf a = 0 then r1.pl++[a] else r1.pl).filter fun x=>x.id == a.id) = [a]
    rw [if_pos hp,List.filter_append]
    have e1:(r1.pl.filter fun x=>x.id == a.id) = []:=by
     rw [List.filter_eq_nil_iff];intro x hx;simpa using F1.pl x hx
    rw [e1];simp
  have G2:=G1.asks l2 h2
  generalize l2.foldl askR (placeR r1 a) = r2 at *
  refine .inl ?_
  show Told a.c a.q (dp a.id (tradeR wd h (tradeR wd h (tradeR wd h r2 0 (seedAt seed bt 0)) 1 (seedAt seed bt 1)) 2 (seedAt seed bt 2)).rp)
  have A1:=HA2.trade (i:=0) (by decide) (seedAt seed bt 0)
  have A2:=A1.trade (i:=1) (by decide) (seedAt seed bt 1)
  have hcs:a.it = ((0:Nat):Int)∨a.it = ((1:Nat):Int)∨a.it = ((2:Nat):Int):=by omega
  rcases hcs with h0 | h0 | h0
  ·obtain ⟨P,hP,K⟩:=G2.trade HA2 (i:=0) (by decide) h0 (seedAt seed bt 0)
   have K1:=K.trade A1 (i:=1) (by decide) (by omega) hit.1 (seedAt seed bt 1)
   have K2:=K1.trade A2 (i:=2) (by decide) (by omega) hit.1 (seedAt seed bt 2)
   rw [K2.rp];exact hP
  ·have G3:=G2.other HA2 (i:=0) (by decide) (by omega) hit.1 (seedAt seed bt 0)
   obtain ⟨P,hP,K⟩:=G3.trade A1 (i:=1) (by decide) h0 (seedAt seed bt 1)
   have K2:=K.trade A2 (i:=2) (by decide) (by omega) hit.1 (seedAt seed bt 2)
   rw [K2.rp];exact hP
  ·have G3:=G2.other HA2 (i:=0) (by decide) (by omega) hit.1 (seedAt seed bt 0)
   have G4:=G3.other A1 (i:=1) (by decide) (by omega) hit.1 (seedAt seed bt 1)
   obtain ⟨P,hP,K⟩:=G4.trade A2 (i:=2) (by decide) h0 (seedAt seed bt 2)
   rw [K.rp];exact hP
 ·have G1:FreeP a.id [refu a.c a.id (Fl.placeC r1.L r1.pf a + 1)] (placeR r1 a):=by
   have eL:(placeR r1 a).L = r1.L:=by show Fl.placeL r1.L r1.pf a = _;unfold Fl.placeL;rw [if_neg hp]
   refine ⟨by rw [eL];exact F1.ls,fun x hx=>?_,?_⟩
   ·have hx':x∈(if Fl.placeC r1.L r1.pf a = 0 then r1.pl++[a] else r1.pl):=hx
    rw [if_neg hp] at hx'
    exact F1.pl x hx'
   ·show dp a.id (if Fl.placeC r1.L r1.pf a = 0 then r1.rp else r1.rp++[refu a.c a.id (Fl.placeC r1.L r1.pf a + 1)]) = _
    rw [if_neg hp,dp_append,F1.rp]
    unfold dp refu
    simp
  have G2:=(FreeP.asks l2 G1 h2).trades (seed:=seed) HA2 bt 3 (Nat.le_refl _)
  exact .inr ⟨_,Nat.succ_pos _,G2.rp⟩
theorem Qt.batch1 {a:Ask} (H:Qt wd h c a.id [a] S) (hc:c < 6) (hn:S.bt≤1000) (hk:a.k = 111) (ha:Se.ac a = 0):Heard a (dp a.id (batchR wd h seed S)):=by
 have H1:Qt wd h c a.id [] (Ve.drained S):=by
  rcases H.drained with h1 | h1
  ·exact h1
  ·omega
 have hsz:=recS_sz S (by omega)
 obtain ⟨h2,h3⟩:=H1.app (show S.bt≤1000 by omega) hsz
 obtain ⟨l1,l2,e,g1,g2⟩:=out_split H.tn hc H.q H.qs
 unfold batchR
 rw [if_pos h2,h3]
 have HA:All wd h (start { Ve.drained S with tp:=(Ve.drained S).tp++Tp.rec (recS S).data.toList }):=H.all
 have HF:FreeP a.id [] (start { Ve.drained S with tp:=(Ve.drained S).tp++Tp.rec (recS S).data.toList }):=⟨H.ls,fun _ h=>(by cases h),rfl⟩
 have:=round_told (seed:=seed) (HA.drops (dropsTo S.dr 6) (dropsTo S.dr 6).length) (HF.drops (dropsTo S.dr 6) (dropsTo S.dr 6).length) hk ha g1 g2 S.bt
 rw [← e] at this
 exact this
theorem Qt.two {a:Ask} (H:Qt wd h c D [] S):Qt wd h c D [a] (twoS S c a):=by
 refine ⟨H.dn,H.cu,fun n hn=>?_,?_,fun n hn hne x hx=>?_,H.ls,H.tp,H.tn,H.bt,H.all⟩
 ·show upd S.lf c ⟨#[]⟩ n = _
  unfold upd
  split
  ·rfl
  ·exact H.lf n hn
 ·show upd S.Q c (S.Q c++[a]) c = _
  rw [upd_same,H.q];rfl
 ·have hx':x∈upd S.Q c (S.Q c++[a]) n:=hx
  rw [upd_ne _ _ hne] at hx'
  exact H.qs n hn hne x hx'
theorem told3 {a:Ask} (H:Qt wd h c a.id [a] S) (hc:c < 6) (hn:S.now≤990) (hla:S.la c = (S.now:Int)) (hk:a.k = 111) (ha:Se.ac a = 0):Heard a (dp a.id (ticksR wd h seed S 3)):=by
 have nl:∀ (T:St) (k:Nat),T.la c = (S.now:Int)→T.now = S.now + k→k≤4→Se.late (T.on c) (T.la c) ((T.now + 1:Nat):Int) = false:=fun T k h1 h2 h3=>by
  unfold Se.late
  rw [h1,h2]
  have:decide ((S.now:Int) + 5 < ((S.now + k + 1:Nat):Int)) = false:=by simp only [decide_eq_false_iff_not];omega
  rw [this,Bool.and_false]
 have quiet:∀ T:St,(T.now + 1) % 3≠0→tickR wd h seed T = []:=fun T hT=>by
  unfold tickR
  rw [if_neg hT]
  split <;> rfl
 have go:∀ T:St,Qt wd h c a.id [a] T→(T.now + 1) % 3≠0→Se.late (T.on c) (T.la c) ((T.now + 1:Nat):Int) = false→Qt wd h c a.id [a] (tickS wd h seed T)∧(tickS wd h seed T).la c = T.la c∧(tickS wd h seed T).now = T.now + 1:=fun T hT h3 hl=>by
  obtain ⟨h1,_,h5,h6⟩:=hT.tocks hl
  have:tickS wd h seed T = Ve.tocks T:=by unfold tickS;rw [if_neg (by rw [hT.dn];decide),if_neg h3]
  rw [this];exact ⟨h1,h5,h6⟩
 have hit:∀ T:St,Qt wd h c a.id [a] T→(T.now + 1) % 3 = 0→T.now≤999→Se.late (T.on c) (T.la c) ((T.now + 1:Nat):Int) = false→Heard a (dp a.id (tickR wd h seed T))∧(tickS wd h seed T).now = T.now + 1:=fun T hT h3 h9 hl=>by
  obtain ⟨h1,_,h5,h6⟩:=hT.tocks hl
  have:tickR wd h seed T = batchR wd h seed (Ve.tocks T):=by unfold tickR;rw [if_neg (by rw [hT.dn];decide),if_pos h3]
  rw [this]
  exact ⟨h1.batch1 hc (by have:=h1.bt;omega) hk ha,(tick_on wd h seed T hT.dn).2.2⟩
 have e3:ticksR wd h seed S 3 = ((([]++tickR wd h seed S)++tickR wd h seed (tickS wd h seed S))++tickR wd h seed (tickS wd h seed (tickS wd h seed S))):=rfl
 rw [e3]
 have hm:S.now % 3 = 0∨S.now % 3 = 1∨S.now % 3 = 2:=by omega
 rcases hm with hm | hm | hm
 ·obtain ⟨a1,a2,a3⟩:=go S H (by omega) (nl S 0 hla rfl (by decide))
  obtain ⟨b1,b2,b3⟩:=go _ a1 (by rw [a3];omega) (nl _ 1 (a2.trans hla) a3 (by decide))
  obtain ⟨d1,_⟩:=hit _ b1 (by rw [b3,a3];omega) (by rw [b3,a3];omega) (nl _ 2 ((b2.trans a2).trans hla) (by rw [b3,a3]) (by decide))
  rw [quiet S (by omega),quiet _ (by rw [a3];omega)]
  exact d1
 ·obtain ⟨a1,a2,a3⟩:=go S H (by omega) (nl S 0 hla rfl (by decide))
  obtain ⟨d1,d2⟩:=hit _ a1 (by rw [a3];omega) (by rw [a3];omega) (nl _ 1 (a2.trans hla) a3 (by decide))
  rw [quiet S (by omega),quiet (tickS wd h seed (tickS wd h seed S)) (by rw [d2,a3];omega),List.append_nil]
  exact d1
 ·obtain ⟨d1,d2⟩:=hit S H (by omega) (by omega) (nl S 0 hla rfl (by decide))
  have hdn2:(tickR wd h seed (tickS wd h seed (tickS wd h seed S))) = []:=by
   by_cases hd:(tickS wd h seed S).down = false
   ·exact quiet _ (by rw [(tick_on wd h seed _ hd).2.2,d2];omega)
   ·have e4:tickS wd h seed (tickS wd h seed S) = tickS wd h seed S:=by rw [tickS,if_pos (by simpa using hd)]
    rw [e4];exact quiet _ (by rw [d2];omega)
  rw [quiet (tickS wd h seed S) (by rw [d2];omega),hdn2,List.append_nil,List.append_nil]
  exact d1
theorem hears_now (S:St) (n:Nat) (b:ByteArray):∀ k,(hearsS S n b k).now = S.now
 | 0=>rfl
 | k + 1=>by
  have h1:=hears_now S n b k
  rw [hearsS]
  unfold hearS
  split
  ·split
   ·split
    ·exact h1
    ·split
     ·exact h1
     ·exact h1
   ·exact h1
  ·exact h1
theorem feed_now (S:St) (n:Int) (b:ByteArray):(feedS S n b).now = S.now:=by
 unfold feedS
 split
 ·rfl
 ·exact hears_now _ _ _ _
def Apart (c:Nat) (D:Int) (x:Stp):Prop:=isCut x = false∧x.c≠(c:Int)∧x.s = ⟨#[]⟩∧∀ a∈x.asks,a.id≠D
theorem Qt.walk (hc:c < 6) (H:Qt wd h c D [] S) (hon:S.on c = false) (hnow:S.now = 0) (l:List Stp) {m:Nat} (hl:∀ i,i < m→Apart c D (snth l i)) (hm:m≤100):∀ k,k≤m→Qt wd h c D [] (walkS wd h seed S l k)∧(walkS wd h seed S l k).on c = false∧(walkS wd h seed S l k).now≤8 * k
 | 0,_=>⟨H,hon,by show S.now≤_;omega⟩
 | k + 1,hk=>by
  obtain ⟨h1,h2,h3⟩:=Qt.walk hc H hon hnow l hl hm k (by omega)
  obtain ⟨a1,a2,a3,a4⟩:=hl k (by omega)
  show Qt wd h c D [] (stepS wd h seed (walkS wd h seed S l k) (snth l k))∧(stepS wd h seed (walkS wd h seed S l k) (snth l k)).on c = false∧(stepS wd h seed (walkS wd h seed S l k) (snth l k)).now≤8 * (k + 1)
  generalize walkS wd h seed S l k = T at *
  generalize snth l k = x at *
  unfold stepS
  split
  ·obtain ⟨g1,g2⟩:=h1.step a2 x.asks a4
   rw [a3]
   exact ⟨g1,g2.trans h2,by rw [feed_now];omega⟩
  ·rw [if_neg (by rw [a1];decide)]
   have ht:ticksOf x≤8:=by unfold ticksOf;split <;> omega
   obtain ⟨g1,g2,g3⟩:=h1.ticks0 (seed:=seed) hc h2 (ticksOf x) (by omega)
   exact ⟨g1,g2,by rw [g3];omega⟩
theorem qt_init {ref cash stock:Int} (hr:FAll (fun _=>[]) (Fl.gift cash stock 6) (Fl.bands ref) wd h):Qt wd h c D [] (init ref cash stock) :=
 ⟨rfl,rfl,fun _ _=>rfl,rfl,fun _ _ _ _ h=>(by cases h),fun _ _ _ h=>(by cases h),Nat.zero_le _,(show 0 < 6 by decide),Nat.le_refl _,hr⟩
end Ve
end Go.Proofs.YtidahfhingdlmaaGreatDoor
namespace Go.Proofs.YtidahfhingdlmaaGreatDoor
open Go.RowKit
set_option maxRecDepth 100000
section
variable {w W:World} {ad:Nat→Addr} {B:Vb} {X:Vx} {wd h seed:Int} {S:Ve.St}
def stpA (kd:ByteArray) (c:Int) (aa:Option Addr) (m cap:Nat) (s:ByteArray) (n:Int):Array Value:=#[.string kd,.int .i64 c,.slice aa m cap,.string s,.int .i64 n]
set_option maxHeartbeats 4000000 in
theorem walk_any (a:Option Addr) (m cap:Nat) (l:List Stp) (W:World) (H:Hid (Ven w W B X wd h seed S)) (hs:Hid (Sent w ad)) (ht:Hid (Lib.TabBelow Tryz.prog w.heap.size w "internal/strconv.uint64pow10" .u64 Lib.pow10Tab)) (hst:Hid (StpsAt w a m l)) {N:Nat} (hok:Hid (Ve.Ok N wd h S)) (hN:N≤1000) (hm:m≤40) (hsm:Hid (∀ i,i < m→(snth l i).asks.length≤10∧(snth l i).s.size≤200)) :
  Calls Tryz.prog 13 #[.pointer (some ⟨B.V,0,none⟩),.slice a m cap] W fun e w'=>∃ v X',e = .returned v∧Ven w w' B X' wd h seed (Ve.walkS wd h seed S l m)∧VStep W w' B X X'∧Reps w' W.heap.size v (Ve.walkR wd h seed S l m)∧Ve.Ok (N + 8 * m) wd h (Ve.walkS wd h seed S l m)∧(Ve.walkR wd h seed S l m).length≤23200 * m∧Ve.Same S.pf (Ve.walkS wd h seed S l m).pf:=by
 go_enter Tryz.func13,Tryz.ntmps13
 go_wp2_with fail
 go_loopw [5,6] (fun ov kv wr=>∃ (k:Nat) (X':Vx),k≤m∧kv = .int .i64 k∧Ven w wr B X' wd h seed (Ve.walkS wd h seed S l k)∧VStep W wr B X X'∧Reps wr W.heap.size ov (Ve.walkR wd h seed S l k)∧Ve.Ok (N + 8 * k) wd h (Ve.walkS wd h seed S l k)∧(Ve.walkR wd h seed S l k).length≤23200 * k∧Ve.Same S.pf (Ve.walkS wd h seed S l k).pf) (fun _ kv _=>m - (intOf kv).toNat)
 case atStart=>exact ⟨0,X,by omega,rfl,H.out,VStep.refl _ _ _,World.ownsRow_nil _ _ _ _,hok.out,Nat.le_refl 0,Ve.Same.refl _⟩
 case round =>
  obtain ⟨k,X1,hk,rfl,hv1,hs1,hr1,ho1,hl1,hsm1⟩:=hrel
  have HM1:=hide hsm1
  clear hsm1
  have H1:=hide hv1;have HS1:=hide hs1;have HR1:=hide hr1;have HO1:=hide ho1
  clear hv1 hs1 hr1 ho1
  by_cases hlt:k < m
  ·have hki:(k:Int) < m:=by omega
   obtain ⟨g,hg,hcs⟩:∃ g,a = some g∧_:=by
    rcases hst.out.2.1 with h0 | h1
    ·omega
    ·exact h1
   subst hg
   have hnx:=hst.out.2.2 k hlt
   obtain ⟨hsm1,hsm2⟩:=hsm.out k hlt
   obtain ⟨aa,am,ac,d0,d1,d2,d3,d4,d5⟩:=(hcs k hlt).later H1.out.bl
   have hgl:(g.add (k * 5)).block < wr.heap.size:=World.block_lt_of_cell? _ _ d0
   have HW1:Hid (Ve.walkS wd h seed S l (k + 1) = Ve.stepS wd h seed (Ve.walkS wd h seed S l k) (snth l k)):=rfl
   have HW2:Hid (Ve.walkR wd h seed S l (k + 1) = Ve.walkR wd h seed S l k++Ve.stepR wd h seed (Ve.walkS wd h seed S l k) (snth l k)):=rfl
   have hlm:(snth l k).asks.length = am:=d5.1
   generalize Ve.walkS wd h seed S l k = S1 at *
   generalize Ve.walkR wd h seed S l k = R1 at *
   generalize snth l k = x at *
   obtain ⟨xk,xc,xa,xs,xn⟩:=x
   simp only [] at d0 d1 d2 d3 d4 d5 hnx hsm1 hsm2 hlm
   have HD5:=hide d5
   clear hcs d5
   have HB2:Hid (Below wr.heap.size wr (wr.alloc (.cells (stpA xk xc aa am ac xs xn) 41))):=(Below.refl _ _).alloc (Nat.le_refl _) _
   have HK2:Hid ((wr.alloc (.cells (stpA xk xc aa am ac xs xn) 41)).heap[wr.heap.size]? = some (.cells (stpA xk xc aa am ac xs xn) 41 (0,0))):=heap_alloc_new _ _
   have H2:=hide (H1.out.later HB2.out);have HS2:=hide (HS1.out.below HB2.out);have HR2:=hide (row_later HR1.out HB2.out)
   have HA2:=hide (HD5.out.later HB2.out)
   unfold stpA at HB2 HK2 H2 HS2 HR2 HA2
   cases hfd:(xk.toList == [102,101,101,100]) with
   | true =>
    have HST:Hid (Ve.stepS wd h seed S1 ⟨xk,xc,xa,xs,xn⟩ = Ve.feedS S1 xc (Ve.stepTo xs xa am)):=by
     show _ = _;unfold Ve.stepS isFeed;simp only [hfd,hlm];rfl
    have HSR:Hid (Ve.stepR wd h seed S1 ⟨xk,xc,xa,xs,xn⟩ = []):=by
     show _ = _;unfold Ve.stepR isFeed;simp only [hfd];rfl
    go_wp2_with fail
    obtain ⟨p,hp⟩:∃ p,wr.heap.size = p:=⟨_,rfl⟩
    rw [hp] at HK2
    simp only [hp]
    generalize wr.alloc (.cells #[.string xk,.int .i64 xc,.slice aa am ac,.string xs,.int .i64 xn] 41) = w2 at *
    clear d0 d1 d2 d3 d4 hgl
    have HBY:=hide (fun W' (h':Below w2.heap.size w2 W')=>bytesOf_any xk xc aa am ac xs xn xa W' (HA2.out.later h') (by omega) (by omega))
    have hsz:=stepTo_size xs xa am
    generalize Ve.stepTo xs xa am = bs at *
    have HFD:=hide (fun W' (h':Below w2.heap.size w2 W')=>vfeed_any xc bs W' (H2.out.later h') hs.out (fun c hc=>by have:=HO1.out.lf c hc;rw [ByteArray.size_append];omega))
    obtain ⟨XT,val,hcl,hmk⟩:=class_all (fun W'=>W'.heap[p]? = some (.cells #[.string xk,.int .i64 xc,.slice aa am ac,.string xs,.int .i64 xn] 41 (0,0)))
    obtain ⟨x0,hx0⟩:=hmk w2.drew HK2.out
    have hnx0:Nonempty XT:=⟨x0⟩
    have s0:∀ x,(val x).cell? ⟨p,0,none⟩ = some (.string xk):=fun x=>by rw [cell_of_row _ _ _ _ _ _ (hcl x)];rfl
    have s1:∀ x,(val x).cell? ⟨p,1,none⟩ = some (.int .i64 xc):=fun x=>by rw [cell_of_row _ _ _ _ _ _ (hcl x)];rfl
    have s2:∀ x,(val x).cell? ⟨p,2,none⟩ = some (.slice aa am ac):=fun x=>by rw [cell_of_row _ _ _ _ _ _ (hcl x)];rfl
    have s3:∀ x,(val x).cell? ⟨p,3,none⟩ = some (.string xs):=fun x=>by rw [cell_of_row _ _ _ _ _ _ (hcl x)];rfl
    have s4:∀ x,(val x).cell? ⟨p,4,none⟩ = some (.int .i64 xn):=fun x=>by rw [cell_of_row _ _ _ _ _ _ (hcl x)];rfl
    have HMK:=hide hmk
    clear hmk hcl
    refine region_many_calls (val:=val) [4,5] [0,1,2,3,4,5] (by kernel_rfl) (by kernel_rfl) x0 hx0 ?_
    rw [hx0]
    clear hx0
    iterate 4 (refine walkM_read rfl rfl (fun K hK=>?_);refine ⟨by rfl,?_⟩;unfold isRd;go_simp;refine hK _ ?_;clear hK K)
    refine walkM_call rfl rfl (fun K hK=>?_)
    refine ⟨by rfl,?_⟩
    unfold upM
    go_simp
    refine (HBY.out _ drew_below').mono ?_
    rintro e w3 ⟨rfl,hb3⟩
    have HB3:Hid (Below w2.heap.size w2 w3):=drew_below'.trans hb3
    refine ⟨_,rfl,HMK.out _ (s_row_later HB3.out HK2.out),hK _ _ ?_⟩
    clear hK K hb3 HBY
    refine walkM_call rfl rfl (fun K hK=>?_)
    refine ⟨by rfl,?_⟩
    unfold upM
    go_simp
    refine (HFD.out _ HB3.out).mono ?_
    rintro e w4 ⟨v4,X4,rfl,_,h4,hs4⟩
    have H3:=hide (H2.out.later HB3.out)
    have HK4:=hide (hs4.block H3.out (s_row_later HB3.out HK2.out) (by decide))
    have H4:=hide h4;have HS4:=hide ((HS2.out.below HB3.out).trans hs4)
    have HR4:Hid (Reps w4 W.heap.size u5 R1):=hs4.row H3.out (row_later HR2.out HB3.out) (by decide)
    refine ⟨_,rfl,HMK.out _ HK4.out,hK _ _ ?_⟩
    clear hK K h4 hs4 HFD s0 s1 s2 s3 s4 HMK
    refine walkM_nil ?_
    clear x0 hnx0
    clear val
    clear XT
    go_wp2
    refine ⟨⟨k + 1,X4,hlt,by go_num,?_,HS4.out,?_,?_,?_,?_⟩,by simp [intOf];omega⟩
    ·rw [HW1.out,HST.out];exact H4.out
    ·rw [HW2.out,HSR.out,List.append_nil];exact HR4.out
    ·rw [HW1.out,HST.out];exact ok_more (feed_ok HO1.out _ _) (by omega)
    ·rw [HW2.out,HSR.out,List.append_nil];omega
    ·rw [HW1.out,HST.out,(feed_pf _ _ _).1];exact HM1.out
   | false =>
    cases hct:(xk.toList == [99,117,116]) with
    | true =>
     have HST:Hid (Ve.stepS wd h seed S1 ⟨xk,xc,xa,xs,xn⟩ = Ve.cutS S1 xn):=by
      show _ = _;unfold Ve.stepS isFeed isCut;simp only [hfd,hct];rfl
     have HSR:Hid (Ve.stepR wd h seed S1 ⟨xk,xc,xa,xs,xn⟩ = []):=by
      show _ = _;unfold Ve.stepR isFeed isCut;simp only [hfd,hct];rfl
     go_wp2_with fail
     obtain ⟨p,hp⟩:∃ p,wr.heap.size = p:=⟨_,rfl⟩
     rw [hp] at HK2
     simp only [hp]
     generalize wr.alloc (.cells #[.string xk,.int .i64 xc,.slice aa am ac,.string xs,.int .i64 xn] 41) = w2 at *
     clear d0 d1 d2 d3 d4 hgl
     have HTP:=hide (fun W' (h':Below w2.heap.size w2 W')=>tape_any W' (H2.out.later h'))
     have HCU:=hide (fun W' (h':Below w2.heap.size w2 W')=>vcut_any xn W' (H2.out.later h') hs)
     obtain ⟨XT,val,hcl,hmk⟩:=class_all (fun W'=>W'.heap[p]? = some (.cells #[.string xk,.int .i64 xc,.slice aa am ac,.string xs,.int .i64 xn] 41 (0,0)))
     obtain ⟨x0,hx0⟩:=hmk w2.drew HK2.out
     have hnx0:Nonempty XT:=⟨x0⟩
     have s4:∀ x,(val x).cell? ⟨p,4,none⟩ = some (.int .i64 xn):=fun x=>by rw [cell_of_row _ _ _ _ _ _ (hcl x)];rfl
     have HMK:=hide hmk
     clear hmk hcl
     refine region_many_calls (val:=val) [1,4] [0,2,3,1,4] (by kernel_rfl) (by kernel_rfl) x0 hx0 ?_
     rw [hx0]
     clear hx0
     iterate 3 (refine walkM_read rfl rfl (fun K hK=>?_);refine ⟨by rfl,?_⟩;unfold isRd;go_simp;refine hK _ ?_;clear hK K)
     refine walkM_call rfl rfl (fun K hK=>?_)
     refine ⟨by rfl,?_⟩
     unfold upM
     go_simp
     refine (HTP.out _ drew_below').mono ?_
     rintro e w3 ⟨rfl,hw3⟩
     subst w3
     refine ⟨_,rfl,HMK.out _ HK2.out,hK _ _ ?_⟩
     clear hK K HTP
     refine walkM_call rfl rfl (fun K hK=>?_)
     refine ⟨by rfl,?_⟩
     unfold upM
     go_simp
     refine (HCU.out _ drew_below').mono ?_
     rintro e w4 ⟨v4,rfl,h4,hs4⟩
     have H3:=hide (H2.out.later drew_below')
     have HK4:=hide (hs4.block H3.out (s_row_later drew_below' HK2.out) (by decide))
     have H4:=hide h4;have HS4:=hide ((HS2.out.below drew_below').trans hs4)
     have HR4:Hid (Reps w4 W.heap.size u5 R1):=hs4.row H3.out (row_later HR2.out drew_below') (by decide)
     refine ⟨_,rfl,HMK.out _ HK4.out,hK _ _ ?_⟩
     clear hK K h4 hs4 HCU s4 HMK
     refine walkM_nil ?_
     clear x0 hnx0
     clear val
     clear XT
     go_wp2
     refine ⟨⟨k + 1,X1,hlt,by go_num,?_,HS4.out,?_,?_,?_,?_⟩,by simp [intOf];omega⟩
     ·rw [HW1.out,HST.out];exact H4.out
     ·rw [HW2.out,HSR.out,List.append_nil];exact HR4.out
     ·rw [HW1.out,HST.out];exact ok_more (cut_ok HO1.out _ hnx) (by omega)
     ·rw [HW2.out,HSR.out,List.append_nil];omega
     ·rw [HW1.out,HST.out,cut_pf];exact HM1.out
    | false =>
     go_wp2_with fail
     have HST:Hid (Ve.stepS wd h seed S1 ⟨xk,xc,xa,xs,xn⟩ = Ve.ticksS wd h seed S1 (ticksOf ⟨xk,xc,xa,xs,xn⟩)):=by
      show _ = _;unfold Ve.stepS isFeed isCut;simp only [hfd,hct];rfl
     have HSR:Hid (Ve.stepR wd h seed S1 ⟨xk,xc,xa,xs,xn⟩ = Ve.ticksR wd h seed S1 (ticksOf ⟨xk,xc,xa,xs,xn⟩)):=by
      show _ = _;unfold Ve.stepR isFeed isCut;simp only [hfd,hct];rfl
     have hT8:ticksOf ⟨xk,xc,xa,xs,xn⟩≤8:=by unfold ticksOf;simp only [];split <;> omega
     have hTn:∀ j:Nat,j < ticksOf ⟨xk,xc,xa,xs,xn⟩↔((j:Int) < xn∧(j:Int) < 8):=fun j=>by unfold ticksOf;simp only [];split <;> omega
     have HTn:=hide hTn
     clear hTn
     generalize ticksOf ⟨xk,xc,xa,xs,xn⟩ = T at *
     obtain ⟨p,hp⟩:∃ p,wr.heap.size = p:=⟨_,rfl⟩
     rw [hp] at HK2
     obtain ⟨ov0,hov0⟩:∃ ov0,u5 = ov0:=⟨_,rfl⟩
     simp only [hp]
     go_loopw [5,8] (fun ov kv wt=>∃ (j:Nat) (X':Vx),j≤T∧kv = .int .i64 j∧Ven w wt B X' wd h seed (Ve.ticksS wd h seed S1 j)∧VStep W wt B X X'∧Reps wt W.heap.size ov (R1++Ve.ticksR wd h seed S1 j)∧Ve.Ok (N + 8 * k + j) wd h (Ve.ticksS wd h seed S1 j)∧(R1++Ve.ticksR wd h seed S1 j).length≤23200 * k + 2900 * j∧wt.heap[p]? = some (.cells #[.string xk,.int .i64 xc,.slice aa am ac,.string xs,.int .i64 xn] 41 (0,0))∧Ve.Same S.pf (Ve.ticksS wd h seed S1 j).pf) (fun _ kv _=>T - (intOf kv).toNat)
     case atStart=>exact ⟨0,X1,by omega,rfl,H2.out,HS2.out,by rw [show Ve.ticksR wd h seed S1 0 = [] from rfl,List.append_nil];exact HR2.out,HO1.out,by rw [show Ve.ticksR wd h seed S1 0 = [] from rfl,List.append_nil];omega,HK2.out,HM1.out⟩
     case round =>
      obtain ⟨j,X3,hj,rfl,hv3,hs3,hr3,ho3,hl3,hk3,hm3⟩:=hrel
      have HM3:=hide hm3
      clear hm3
      have H3:=hide hv3;have HS3:=hide hs3;have HR3:=hide hr3;have HO3:=hide ho3;have HK3:=hide hk3;have HL3:=hide hl3
      clear hv3 hs3 hr3 ho3 hk3 hl3 HK2 H2 HS2 HR2 HA2 HB2 d0 d1 d2 d3 d4 hgl
      have c4:wr.cell? ⟨p,4,none⟩ = some (.int .i64 xn):=by rw [cell_of_row _ _ 4 _ _ _ HK3.out];rfl
      by_cases hjT:j < T
      ·obtain ⟨hj1,hj2⟩:=(HTn.out j).1 hjT
       have HN1:Hid (Ve.ticksS wd h seed S1 (j + 1) = Ve.tickS wd h seed (Ve.ticksS wd h seed S1 j)):=rfl
       have HN2:Hid (R1++Ve.ticksR wd h seed S1 (j + 1) = (R1++Ve.ticksR wd h seed S1 j)++Ve.tickR wd h seed (Ve.ticksS wd h seed S1 j)):=by
        show _ = _;rw [List.append_assoc];rfl
       generalize Ve.ticksS wd h seed S1 j = S3 at *
       generalize R1++Ve.ticksR wd h seed S1 j = R3 at *
       have HTK:=hide (tick_any wr H3.out hs.out ht.out HO3.out (by omega))
       go_wp2_with fail
       refine HTK.out.mono ?_
       rintro e w4 ⟨v4,X4,rfl,h4,hs4,hr4,ho4,hl4,hm4⟩
       have HM5:=hide (HM3.out.trans hm4)
       clear hm4
       have hb3:W.heap.size≤w4.heap.size:=Nat.le_trans HS3.out.turned.size hs4.turned.size
       have hR4:Reps w4 W.heap.size u5 R3:=hs4.row H3.out HR3.out (by decide)
       obtain ⟨v5,w5,hap,hr5,hg5⟩:=run_append_reps w4 u5 v4 R3 (Ve.tickR wd h seed S3) hR4 hr4 (by have:=HL3.out;omega) (by omega) hb3
       have H5:=hide (h4.grown hR4 (by decide) (by decide) (Nat.le_trans H.out.lo (Nat.le_of_lt H.out.lt)) hg5)
       have HS5:=hide ((HS3.out.trans hs4).grown hR4 (Nat.le_refl _) hg5)
       have HK5:Hid (w5.heap[p]? = some (.cells #[.string xk,.int .i64 xc,.slice aa am ac,.string xs,.int .i64 xn] 41 (0,0))):=by
        have h41:=hs4.block H3.out HK3.out (by decide)
        show _ = _
        rw [hg5.block p (lt_of_block h41) (fun e=>?_)]
        ·exact h41
        ·obtain ⟨_,cur,h2⟩:=row_block hR4 e.symm
         exact blkT h2 h41 (by decide) rfl
       have HR5:=hide hr5;have HAP:=hide hap;have HO5:=hide ho4
       clear hap hr5 hg5 hR4 h4 hs4 hr4 ho4 HTK c4
       obtain ⟨av,nv,hvv⟩:∃ av nv,v4 = av∧nv = 0:=⟨_,_,rfl,rfl⟩
       simp only []
       go_wp2_with (at_builtin;refine wpList_append_run rfl _ _ 42 rfl _ _ _ rfl rfl HAP.out ?_)
       refine ⟨⟨j + 1,X4,hjT,by go_num,?_,HS5.out,?_,?_,?_,HK5.out,?_⟩,by simp [intOf];omega⟩
       ·rw [HN1.out];exact H5.out
       ·rw [HN2.out];exact HR5.out
       ·rw [HN1.out];exact HO5.out
       ·rw [HN2.out,List.length_append];have:=HL3.out;omega
       ·rw [HN1.out];exact HM5.out
      ·obtain rfl:j = T:=by omega
       have hnb:¬ ((j:Int) < xn∧(j:Int) < 8):=fun e=>hjT ((HTn.out j).2 e)
       have HFin:Hid (∃ (k_1:Nat) (X':Vx),k_1≤m∧Value.int .i64 ((k:Int) + 1) = .int .i64 k_1∧Ven w wr B X' wd h seed (Ve.walkS wd h seed S l k_1)∧VStep W wr B X X'∧Reps wr W.heap.size u5 (Ve.walkR wd h seed S l k_1)∧Ve.Ok (N + 8 * k_1) wd h (Ve.walkS wd h seed S l k_1)∧(Ve.walkR wd h seed S l k_1).length≤23200 * k_1∧Ve.Same S.pf (Ve.walkS wd h seed S l k_1).pf):=by
        refine ⟨k + 1,X3,hlt,by go_num,?_,HS3.out,?_,?_,?_,?_⟩
        ·rw [HW1.out,HST.out];exact H3.out
        ·rw [HW2.out,HSR.out];exact HR3.out
        ·rw [HW1.out,HST.out];exact ok_more HO3.out (by omega)
        ·rw [HW2.out,HSR.out];have:=HL3.out;omega
        ·rw [HW1.out,HST.out];exact HM3.out
       by_cases hx:(j:Int) < xn
       ·have hx8:¬ (j:Int) < 8:=fun e=>hnb ⟨hx,e⟩
        go_wp2
        exact ⟨HFin.out,by simp [intOf];omega⟩
       ·go_wp2
        exact ⟨HFin.out,by simp [intOf];omega⟩
  ·have hki:¬ (k:Int) < m:=by omega
   obtain rfl:k = m:=by omega
   go_wp2
   go_ret
   exact ⟨_,rfl,X1,H1.out,HS1.out,HR1.out,HO1.out,HM1.out⟩
end
section
variable {w W:World} {ad:Nat→Addr}
theorem field68_1 (a:Bool) (b c:Int) (w:World):(Instr.field 68 (.agg #[.bool a,.int .i64 b,.int .i64 c]) 1).run Tryz.prog w = .ok (.int .i64 b) w:=rfl
theorem fits_small:Fl.Fits 20000 100:=by constructor <;> decide
def Ve.S0:Ve.St:=Ve.init 100 20000 100
theorem S0_ok:Ve.Ok 0 10 2 Ve.S0:=init_ok 100 20000 100 (by decide) (by decide) fits_small
set_option maxHeartbeats 4000000 in
theorem opened_any (W:World) (hs:Hid (Sent W ad)):Calls Tryz.prog 8 #[] W fun e w'=>e = .returned (.bool true)∧Below W.heap.size W w':=by
 have HSM:=hide (small_any W)
 go_enter Tryz.func8,Tryz.ntmps8
 go_wp2_with fail
 refine HSM.out.mono ?_
 rintro e w1 ⟨rfl,hb1⟩
 have HB1:=hide hb1
 have HAC:=hide (asConfig_any 5 10 2 100 20000 100 w1)
 clear hb1 HSM
 simp only []
 go_wp2_with fail
 refine HAC.out.mono ?_
 rintro e w2 ⟨rfl,hb2⟩
 have HB2:=hide (HB1.out.trans (hb2.mono HB1.out.size))
 have HS2:=hide (hs.out.later HB2.out)
 have HNW:=hide (vnew_any 5 10 2 100 20000 100 w2 HS2 (show Bd.rOk 10 2 = true by decide) (show Wi.withinB 100 1 1000 = true by decide) fits_small)
 clear hb2 HAC HB1
 simp only []
 go_wp2_with fail
 refine HNW.out.mono ?_
 rintro e w3 ⟨B,X,rfl,hv⟩
 have H3:=hide hv
 have hb3:=hv.bl
 have HB3:=hide hb3
 have HF1:=hide (fun W'=>frame_of 108 1 1 0 0 0 0 0 W' (by decide))
 have HF2:=hide (fun W'=>frame_of 111 1 2 0 0 100 3 9 W' (by decide))
 have e1:strOfNums (Wi.frame 108 1 1 0 0 0 0 0) = Ve.frameOf (Ve.login 1):=by
  unfold Ve.frameOf encText Ve.login;exact (if_pos (show Wi.code 108 1 1 0 0 0 0 0 = 0 by decide)).symm
 have e2:strOfNums (Wi.frame 111 1 2 0 0 100 3 9) = Ve.frameOf ⟨111,1,2,0,0,100,3,9⟩:=by
  unfold Ve.frameOf encText;exact (if_pos (show Wi.code 111 1 2 0 0 100 3 9 = 0 by decide)).symm
 rw [e1] at HF1
 rw [e2] at HF2
 have hz1:=frameOf_size (Ve.login 1)
 have hz2:=frameOf_size ⟨111,1,2,0,0,100,3,9⟩
 obtain ⟨r1,r2⟩:=Ve.two_feed (S:=Ve.S0) (c:=1) (by decide) ⟨111,1,2,0,0,100,3,9⟩ (by decide) rfl rfl rfl rfl rfl rfl (by decide)
 have HFD:=hide (fun W' (h':Below w3.heap.size w3 W')=>vfeed_any (1:Nat) (Ve.frameOf (Ve.login 1)++Ve.frameOf ⟨111,1,2,0,0,100,3,9⟩) W' (H3.out.later h') HS2.out (fun c hc=>by
  show ((⟨#[]⟩:ByteArray)++_).size≤_
  rw [ByteArray.size_append,ByteArray.size_append];show 0 + _≤_;omega))
 have r1':Ve.feedR (Ve.init 100 20000 100) (1:Nat) (Ve.frameOf (Ve.login 1)++Ve.frameOf ⟨111,1,2,0,0,100,3,9⟩) = _:=r1
 have r2':Ve.feedS (Ve.init 100 20000 100) (1:Nat) (Ve.frameOf (Ve.login 1)++Ve.frameOf ⟨111,1,2,0,0,100,3,9⟩) = _:=r2
 rw [r1',r2'] at HFD
 generalize Ve.frameOf (Ve.login 1) = fa at *
 generalize Ve.frameOf ⟨111,1,2,0,0,100,3,9⟩ = fb at *
 have hcat:¬ 9223372036854775807 < fa.size + fb.size:=by omega
 clear r1 r2 r1' r2' e1 e2 hv hb3 HNW
 simp only []
 go_wp2_with fail
 refine (HF1.out _).mono ?_
 rintro e w4 ⟨rfl,hb4⟩
 have HB4:=hide hb4
 clear hb4 HF1
 simp only []
 go_wp2_with fail
 refine (HF2.out _).mono ?_
 rintro e w5 ⟨rfl,hb5⟩
 have HB5:=hide (HB4.out.trans (hb5.mono HB4.out.size))
 clear hb5 HF2
 simp only []
 go_wp2_with fail
 refine (HFD.out _ HB5.out).mono ?_
 rintro e w6 ⟨v6,X6,rfl,hr6,h6,hs6⟩
 have hR6:=hr6
 obtain ⟨ar,cr,hv6⟩:=row_form hr6
 obtain ⟨g,hg⟩:∃ g,ar = some ⟨g,0,none⟩:=by
  rcases hr6.2 with ⟨e1,e2⟩ | ⟨g,cap,cur,e1,_⟩
  ·cases e2
  ·rw [hv6] at e1;simp only [Value.slice.injEq] at e1;exact ⟨g,e1.1⟩
 subst hg
 subst hv6
 have cel:∀ j u,(repC ⟨(1:Nat),Ve.kAcc,9,0,0,0⟩)[j]? = some u→w6.cell? ⟨g,j,none⟩ = some u:=fun j u hj=>by
  have:=World.ownsRow.cells hR6 (g:=g) rfl j u (by simpa [rflat] using hj)
  have hp:(⟨g,0,none⟩:Addr).add j = ⟨g,j,none⟩:=by unfold Addr.add;split <;> simp_all
  rwa [hp] at this
 have c0:w6.cell? ⟨g,0,none⟩ = some (.int .i64 1):=cel 0 _ rfl
 have c1:w6.cell? ⟨g,1,none⟩ = some (.string ⟨#[97,99,99,101,112,116,101,100]⟩):=cel 1 _ rfl
 have c2:w6.cell? ⟨g,2,none⟩ = some (.int .i64 9):=cel 2 _ rfl
 have c3:w6.cell? ⟨g,3,none⟩ = some (.int .i64 0):=cel 3 _ rfl
 have c4:w6.cell? ⟨g,4,none⟩ = some (.int .i64 0):=cel 4 _ rfl
 have c5:w6.cell? ⟨g,5,none⟩ = some (.int .i64 0):=cel 5 _ rfl
 have hgl:g < w6.heap.size:=World.block_lt_of_cell? _ _ c0
 have HSE:=hide (session_any 1 (by decide) w6 h6)
 have HWA:=hide (fun W' (h':Below w6.heap.size w6 W')=>vwait_any 1 W' (h6.later h'))
 have HB6:Hid (Below W.heap.size W w6):=by
  have h1:=hs6.low (H3.out.later HB5.out)
  exact HB2.out.trans ((HB3.out.trans ((HB5.out.mono HB3.out.size).trans h1)).mono HB2.out.size)
 clear hr6 h6 hs6 cel HFD
 unfold sV at HSE
 have hnx3:(Ve.twoS Ve.S0 1 ⟨111,1,2,0,0,100,3,9⟩).nx 1 = 3:=rfl
 have hwt1:Ik.waitN (Ve.twoS Ve.S0 1 ⟨111,1,2,0,0,100,3,9⟩).Q 1 = 1:=rfl
 rw [hnx3] at HSE
 rw [hwt1] at HWA
 simp only []
 go_wp2_with fail
 refine HSE.out.mono ?_
 rintro e w7 ⟨rfl,hb7⟩
 have HB7:=hide hb7
 clear hb7 HSE c0 c1 c2 c3 c4 c5
 have hfd:=field68_1
 simp only []
 go_wp2_with fail
 refine (HWA.out _ HB7.out).mono ?_
 rintro e w8 ⟨rfl,hw8⟩
 subst w8
 clear HWA
 simp only []
 go_wp2
 go_ret
 exact ⟨rfl,HB6.out.trans (HB7.out.mono HB6.out.size)⟩
end
section
variable {w W:World}
def Few (l:List Stp) (m most:Nat):Prop:=m≤most∧∀ i,i < m→(snth l i).asks.length≤10∧(snth l i).s.size≤200
set_option maxHeartbeats 2000000 in
theorem longSteps_any (a:Option Addr) (m cap most:Nat) (l:List Stp) (W:World) (hbw:Hid (Below w.heap.size w W)) (hst:Hid (StpsAt w a m l)) (hmost:most≤1000) :
  Calls Tryz.prog 9 #[.slice a m cap,.int .i64 most] W fun e w'=>w' = W∧(e = .returned (.bool true)∨e = .returned (.bool false)∧Few l m most):=by
 by_cases hmm:most < m
 ·have hi:(most:Int) < m:=by omega
  go_enter Tryz.func9,Tryz.ntmps9
  go_wp2
  go_ret
  exact ⟨rfl,.inl rfl⟩
 ·have hi:¬ (most:Int) < m:=by omega
  go_enter Tryz.func9,Tryz.ntmps9
  go_wp2_with fail
  go_loopw [5] (fun kv wr=>∃ k:Nat,k≤m∧kv = .int .i64 k∧wr = W∧∀ i,i < k→(snth l i).asks.length≤10∧(snth l i).s.size≤200) (fun kv _=>m - (intOf kv).toNat)
  case atStart=>exact ⟨0,by omega,rfl,rfl,fun i h=>by omega⟩
  case round =>
   obtain ⟨k,hk,rfl,hwr,hall⟩:=hrel
   subst wr
   have HALL:=hide hall
   clear hall
   by_cases hlt:k < m
   ·have hki:(k:Int) < m:=by omega
    obtain ⟨g,hg,hcs⟩:∃ g,a = some g∧_:=by
     rcases hst.out.2.1 with h0 | h1
     ·omega
     ·exact h1
    subst hg
    obtain ⟨aa,am,ac,d0,d1,d2,d3,d4,d5⟩:=(hcs k hlt).later hbw.out
    have hgl:(g.add (k * 5)).block < W.heap.size:=World.block_lt_of_cell? _ _ d0
    have hlm:(snth l k).asks.length = am:=d5.1
    have HKK:Hid (∀ i,i < k + 1→i < k∨i = k):=fun i hi=>by omega
    obtain ⟨x,hx⟩:∃ x,snth l k = x:=⟨_,rfl⟩
    have HX:=hide hx
    rw [hx] at d0 d1 d3 d4 hlm
    clear hcs d5 hx
    by_cases hA:(10:Int) < am
    ·go_wp2
     go_ret
     exact ⟨rfl,.inl rfl⟩
    ·by_cases hS:(200:Int) < x.s.size
     ·go_wp2
      go_ret
      exact ⟨rfl,.inl rfl⟩
     ·have HFin:Hid (∀ i,i < k + 1→(snth l i).asks.length≤10∧(snth l i).s.size≤200):=fun i hi=>by
       rcases HKK.out i hi with h1 | rfl
       ·exact HALL.out i h1
       ·rw [HX.out];omega
      go_wp2
      exact ⟨⟨k + 1,hlt,by go_num,trivial,HFin.out⟩,by simp [intOf];omega⟩
   ·have hki:¬ (k:Int) < m:=by omega
    obtain rfl:k = m:=by omega
    have HF:Hid (Few l k most):=⟨by omega,HALL.out⟩
    go_wp2
    go_ret
    exact ⟨rfl,.inr ⟨rfl,HF.out⟩⟩
end
section
variable {w W W':World} {ad:Nat→Addr} {B:Vb} {X X':Vx} {wd h seed:Int} {S:Ve.St}
structure Bes (W:World) (B:Vb) (X:Vx) (p:Nat) (o:Array Value) (t:TypeId):Prop where
 row:W.heap[p]? = some (.cells o t (0,0))
 no:¬ vown B X p
theorem Bes.step {p:Nat} {o:Array Value} {t:TypeId} (b:Bes W B X p o t) (hs:VStep W W' B X X'):Bes W' B X' p o t:=by
 refine ⟨by rw [hs.turned.block p (lt_of_block b.row) b.no];exact b.row,fun h=>?_⟩
 rcases hs.new p h with h1 | h1
 ·exact b.no h1
 ·exact absurd (lt_of_block b.row) (by omega)
theorem Bes.later {p:Nat} {o:Array Value} {t:TypeId} (b:Bes W B X p o t) (hb:Below W.heap.size W W'):Bes W' B X p o t:=⟨s_row_later hb b.row,b.no⟩
theorem dp_take {D:Int} {R:List Ve.Rep} {i:Nat} (h:i < R.length):Ve.dp D (R.take (i + 1)) = Ve.dp D (R.take i)++(if (rnth R i).id = D then [rnth R i] else []):=by
 have e:R.take (i + 1) = R.take i++[rnth R i]:=by
  rw [List.take_succ_eq_append_getElem h]
  unfold rnth
  rw [List.getD_eq_getElem?_getD,List.getElem?_eq_getElem h];rfl
 rw [e,Ve.dp_append]
 congr 1
 unfold Ve.dp
 by_cases hd:(rnth R i).id = D
 ·rw [if_pos hd,List.filter_cons,if_pos (by simpa using hd)];rfl
 ·rw [if_neg hd,List.filter_cons,if_neg (by simpa using hd)];rfl
theorem text_is {b k:ByteArray} (h:b.toList = k.data.toList):b = k:=by
 rw [ByteArray.toList_eq] at h
 exact ByteArray.ext (Array.toList_inj.1 h)
theorem dp_split (D:Int) (R:List Ve.Rep) (i:Nat):Ve.dp D R = Ve.dp D (R.take i)++Ve.dp D (R.drop i):=by
 rw [← Ve.dp_append,List.take_append_drop]
theorem sum_bd:∀ {P:List Ve.Rep},(∀ r∈P,0≤r.q∧r.q≤1000000)→(0≤Ve.sumF P∧Ve.sumF P≤1000000 * P.length)∧(0≤Ve.sumR P∧Ve.sumR P≤1000000 * P.length)
 | [],_=>⟨⟨Int.le_refl _,Int.le_refl _⟩,⟨Int.le_refl _,Int.le_refl _⟩⟩
 | r :: P,h=>by
  obtain ⟨⟨h1,h2⟩,h3,h4⟩:=sum_bd (P:=P) (fun x hx=>h x (List.mem_cons_of_mem _ hx))
  have h5:=h r List.mem_cons_self
  rw [Ve.sumF,Ve.sumR,List.length_cons]
  push_cast
  refine ⟨⟨?_,?_⟩,?_,?_⟩ <;> split <;> omega
set_option maxHeartbeats 8000000 in
theorem venueTold_any (cl it sd pr qt:Int) (a:Option Addr) (m cap:Nat) (l:List Stp) (W:World) (hs:Hid (Sent W ad)) (ht:Hid (Lib.TabBelow Tryz.prog W.heap.size W "internal/strconv.uint64pow10" .u64 Lib.pow10Tab)) (hst:Hid (StpsAt W a m l)) :
  Calls Tryz.prog 3 #[.int .i64 cl,.int .i64 it,.int .i64 sd,.int .i64 pr,.int .i64 qt,.slice a m cap] W fun e w'=>e = .returned (.bool true)∧Below W.heap.size W w':=by
 have HOP:=hide (opened_any W hs)
 go_enter Tryz.func3,Tryz.ntmps3
 go_wp2_with fail
 refine HOP.out.mono ?_
 rintro e w1 ⟨rfl,hb1⟩
 have HB1:=hide hb1
 have HLG:=hide (longSteps_any a m cap 30 l w1 HB1 hst (by decide))
 clear hb1 HOP
 simp only []
 go_wp2_with fail
 refine HLG.out.mono ?_
 rintro e w2 ⟨hw2,he⟩
 subst w2
 clear HLG
 rcases he with rfl | ⟨rfl,hfew⟩
 ·simp only []
  go_wp2
  go_ret
  exact ⟨rfl,HB1.out⟩
 by_cases h6:cl < 0
 ·simp only []
  go_wp2
  go_ret
  exact ⟨rfl,HB1.out⟩
 by_cases h7:6≤cl
 ·simp only []
  go_wp2
  go_ret
  exact ⟨rfl,HB1.out⟩
 obtain ⟨c,rfl⟩:∃ c:Nat,cl = c:=⟨cl.toNat,by omega⟩
 have hc6:c < 6:=by omega
 have HFW:=hide hfew
 have HSM:=hide (small_any w1)
 clear hfew
 simp only []
 go_wp2_with fail
 refine HSM.out.mono ?_
 rintro e w2 ⟨rfl,hb2⟩
 have HB2:=hide (HB1.out.trans (hb2.mono HB1.out.size))
 have HAC:=hide (asConfig_any 5 10 2 100 20000 100 w2)
 clear hb2 HSM
 simp only []
 go_wp2_with fail
 refine HAC.out.mono ?_
 rintro e w3 ⟨rfl,hb3⟩
 have HB3:=hide (HB2.out.trans (hb3.mono HB2.out.size))
 have HNW:=hide (vnew_any 5 10 2 100 20000 100 w3 (hs.out.later HB3.out) (show Bd.rOk 10 2 = true by decide) (show Wi.withinB 100 1 1000 = true by decide) fits_small)
 clear hb3 HAC
 simp only []
 go_wp2_with fail
 refine HNW.out.mono ?_
 rintro e w4 ⟨B,X,rfl,hv⟩
 have H4:Hid (Ven W w4 B X 10 2 5 Ve.S0):=Ven.rebase HB3.out hv
 clear hv HNW HB2
 simp only []
 go_wp2_with fail
 have hm30:=HFW.out.1
 go_loopw [16] (fun kv wr=>∃ k:Nat,k≤m∧kv = .int .i64 k∧wr = w4∧∀ i,i < k→isCut (snth l i) = false∧(snth l i).c≠(c:Int)) (fun kv _=>m - (intOf kv).toNat)
 case atStart=>exact ⟨0,by omega,rfl,rfl,fun i hi=>by omega⟩
 case round =>
  obtain ⟨k,hkm,rfl,hwr,hall⟩:=hrel
  subst wr
  have HAL:=hide hall
  clear hall
  by_cases hk:k < m
  ·have hki:(k:Int) < m:=by omega
   obtain ⟨g,hg,hcs⟩:∃ g,a = some g∧_:=by
    rcases hst.out.2.1 with h0 | h1
    ·omega
    ·exact h1
   subst hg
   obtain ⟨aa,am,ac,d0,d1,d2,d3,d4,d5⟩:=(hcs k hk).later H4.out.bl
   have hgl:(g.add (k * 5)).block < w4.heap.size:=World.block_lt_of_cell? _ _ d0
   have HKK:Hid (∀ i,i < k + 1→i < k∨i = k):=fun i hi=>by omega
   obtain ⟨x,hx⟩:∃ x,snth l k = x:=⟨_,rfl⟩
   rw [hx] at d0 d1
   have HX:=hide hx
   clear hx hcs d5 d2 d3 d4
   obtain ⟨xk,xc,xa,xs,xn⟩:=x
   simp only [] at d0 d1
   cases hct:(xk.toList == [99,117,116]) with
   | true =>
    go_wp2
    go_ret
    exact ⟨rfl,H4.out.bl⟩
   | false =>
    by_cases hxc:xc = (c:Int)
    ·subst hxc
     go_wp2
     go_ret
     exact ⟨rfl,H4.out.bl⟩
    ·have hxb:(xc == (c:Int)) = false:=by simpa using hxc
     go_wp2
     refine ⟨⟨k + 1,hk,by go_num,by first | trivial | rfl,fun i hi=>?_⟩,by simp [intOf];omega⟩
     rcases HKK.out i hi with h1 | h1
     ·exact HAL.out i h1
     ·rw [h1,HX.out];exact ⟨hct,hxc⟩
  ·have hki:¬ (k:Int) < m:=by omega
   obtain rfl:k = m:=by omega
   have HWK:=hide (walk_any a k cap l w4 H4 hs ht hst S0_ok (by decide) (Nat.le_trans HFW.out.1 (by decide)) HFW.out.2)
   clear hk hki
   go_wp2_with fail
   refine HWK.out.mono ?_
   rintro e w5 ⟨v5,X5,rfl,h5,_,_,ho5,_,_⟩
   have H5:=hide h5;have HO5:=hide ho5
   have HQW:=hide (fun (hl:∀ i,i < k→Ve.Apart c 777777 (snth l i))=>Ve.Qt.walk (seed:=5) hc6 (Ve.qt_init (ref:=100) (cash:=20000) (stock:=100) S0_ok.all) rfl rfl l hl (Nat.le_trans HFW.out.1 (by decide)) k (Nat.le_refl _))
   have HQW':Hid ((∀ i,i < k→Ve.Apart c 777777 (snth l i))→Ve.Qt 10 2 c 777777 [] (Ve.walkS 10 2 5 Ve.S0 l k)∧(Ve.walkS 10 2 5 Ve.S0 l k).on c = false∧(Ve.walkS 10 2 5 Ve.S0 l k).now≤8 * k):=HQW.out
   clear h5 ho5 HWK HQW H4
   generalize Ve.walkS 10 2 5 Ve.S0 l k = S5 at *
   obtain ⟨x,hx⟩:∃ x:Ask,x = ⟨111,c,2,it,sd,pr,qt,777777⟩:=⟨_,rfl⟩
   have HB5:Hid (Below w5.heap.size w5 (w5.alloc (.cells (askA x) 45))):=(Below.refl _ _).alloc (Nat.le_refl _) _
   have HBS:Hid (Bes (w5.alloc (.cells (askA x) 45)) B X5 w5.heap.size (askA x) 45):=⟨heap_alloc_new _ _,fun h=>by have:=(H5.out.own_lt h).2;omega⟩
   have H6:=hide (H5.out.later HB5.out)
   have HAE:=hide (askError_any x.k x.c x.sq x.it x.sd x.pr x.q x.id (w5.alloc (.cells (askA x) 45)))
   obtain ⟨p,hp⟩:∃ p,w5.heap.size = p:=⟨_,rfl⟩
   rw [hp] at HBS
   have hpW:W.heap.size≤p:=by rw [← hp];exact H5.out.bl.size
   subst hx
   unfold askA at *
   simp only [] at HAE HBS
   simp only []
   go_wp2_with fail
   have hcz:Wi.code 111 c 2 it sd pr qt 777777 = 0∨2≤Wi.code 111 c 2 it sd pr qt 777777:=by
    unfold Wi.code;split <;> (try split) <;> (try split) <;> omega
   rcases hcz with hcd | hcd
   rotate_left
   ·refine HAE.out.mono ?_
    rintro e w6 ⟨rfl,hb6⟩
    have HF:=hide (H6.out.bl.trans (hb6.mono H6.out.bl.size))
    generalize Wi.code 111 c 2 it sd pr qt 777777 = cd at *
    have hcp:(0:Int) < cd:=by omega
    clear hb6 HAE
    simp only []
    go_wp2
    go_ret
    exact ⟨rfl,HF.out⟩
   rw [hcd] at HAE
   refine HAE.out.mono ?_
   rintro e w6 ⟨rfl,hb6⟩
   have H7:=hide (H6.out.later hb6);have HB7:=hide (HBS.out.later hb6)
   have HAC:=hide (show Se.ac ⟨111,c,2,it,sd,pr,qt,777777⟩ = 0 from hcd)
   have HCD:=hide hcd
   clear hb6 HAE H6 HBS HB5 H5 hcd hp
   simp only []
   go_wp2_with fail
   go_loopw [18] (fun kv wr=>∃ q:Nat,q≤k∧kv = .int .i64 q∧Ven W wr B X5 10 2 5 S5∧Bes wr B X5 p #[.int .u8 111,.int .i64 c,.int .i64 2,.int .i64 it,.int .i64 sd,.int .i64 pr,.int .i64 qt,.int .i64 777777] 45∧∀ i,i < q→(snth l i).s = ⟨#[]⟩∧∀ j,j < (snth l i).asks.length→(anth (snth l i).asks j).id≠777777) (fun kv _=>k - (intOf kv).toNat)
   case atStart=>exact ⟨0,by omega,rfl,H7.out,HB7.out,fun i hi=>by omega⟩
   case round =>
    obtain ⟨q,hqk,rfl,hvq,hbq,hallq⟩:=hrel
    have HVQ:=hide hvq;have HBQ:=hide hbq;have HAQ:=hide hallq
    clear hvq hbq hallq H7 HB7
    by_cases hq:q < k
    ·have hqi:(q:Int) < k:=by omega
     obtain ⟨g,hg,hcs⟩:∃ g,a = some g∧_:=by
      rcases hst.out.2.1 with h0 | h1
      ·omega
      ·exact h1
     subst hg
     have hsm:=(HFW.out.2 q hq).1
     have HST:=hide (hcs q hq)
     have HKK:Hid (∀ i,i < q + 1→i < q∨i = q):=fun i hi=>by omega
     obtain ⟨x,hx⟩:∃ x,snth l q = x:=⟨_,rfl⟩
     rw [hx] at HST hsm
     have HX:=hide hx
     clear hx hcs
     obtain ⟨xk,xc,xa,xs,xn⟩:=x
     obtain ⟨aa,am,ac,d0,d1,d2,d3,d4,d5⟩:=HST.out
     have hlm:xa.length = am:=d5.1
     have HD5:=hide d5
     have D0:=hide d0;have D2:=hide d2;have D3:=hide d3
     simp only [] at hsm
     clear d0 d1 d2 d3 d4 d5 HST
     have hgl:(g.add (q * 5)).block < wr.heap.size:=World.block_lt_of_cell? _ _ (cell_later HVQ.out.bl D0.out)
     go_wp2_with fail
     go_loopw [19] (fun kv wt=>∃ j:Nat,j≤am∧kv = .int .i64 j∧Ven W wt B X5 10 2 5 S5∧Bes wt B X5 p #[.int .u8 111,.int .i64 c,.int .i64 2,.int .i64 it,.int .i64 sd,.int .i64 pr,.int .i64 qt,.int .i64 777777] 45∧∀ j',j' < j→(anth xa j').id≠777777) (fun kv _=>am - (intOf kv).toNat)
     case atStart=>exact ⟨0,by omega,rfl,HVQ.out,HBQ.out,fun i hi=>by omega⟩
     case round =>
      obtain ⟨j,hjm,rfl,hvj,hbj,hallj⟩:=hrel
      have HVJ:=hide hvj;have HBJ:=hide hbj;have HAJ:=hide hallj
      clear hvj hbj hallj HVQ HBQ hgl
      have c2:=cell_later HVJ.out.bl D2.out
      have hgl:(g.add (q * 5)).block < wr.heap.size:=World.block_lt_of_cell? _ _ (cell_later HVJ.out.bl D0.out)
      by_cases hj:j < am
      ·have hji:(j:Int) < am:=by omega
       obtain ⟨g2,hg2,hc2⟩:∃ g2,aa = some g2∧_:=by
        rcases HD5.out.2 with h0 | h1
        ·omega
        ·exact h1
       subst hg2
       have e7:=cell_later HVJ.out.bl (hc2 j hj).2.2.2.2.2.2.2
       have hgl2:(g2.add (j * 8)).block < wr.heap.size:=World.block_lt_of_cell? wr ⟨(g2.add (j * 8)).block,(g2.add (j * 8)).off + 7,none⟩ e7
       have c7:wr.cell? ⟨p,7,none⟩ = some (.int .i64 777777):=by rw [cell_of_row _ _ 7 _ _ _ HBJ.out.row];rfl
       have HJJ:Hid (∀ i,i < j + 1→i < j∨i = j):=fun i hi=>by omega
       obtain ⟨y,hy⟩:∃ y,(anth xa j).id = y:=⟨_,rfl⟩
       rw [hy] at e7
       have HY:=hide hy
       clear hc2 hy
       by_cases hyd:y = 777777
       ·subst hyd
        go_wp2
        go_quiet (fail)
        go_wp2
        go_ret
        exact ⟨rfl,HVJ.out.bl.trans ((blw_drew nq).mono HVJ.out.bl.size)⟩
       ·have hyb:(y == 777777) = false:=by simpa using hyd
        go_wp2
        go_quiet (fail)
        go_wp2
        refine ⟨⟨j + 1,hj,by go_num,HVJ.out.later (blw_drew nq),HBJ.out.later (blw_drew nq),fun i hi=>?_⟩,by simp [intOf];omega⟩
        rcases HJJ.out i hi with h1 | h1
        ·exact HAJ.out i h1
        ·rw [h1,HY.out];exact hyd
      ·have hji:¬ (j:Int) < am:=by omega
       have hjm':j = am:=by omega
       have c3:=cell_later HVJ.out.bl D3.out
       by_cases hxs:xs = ⟨#[]⟩
       ·have HXS:=hide hxs
        subst hxs
        go_wp2
        refine ⟨⟨q + 1,hq,by go_num,HVJ.out,HBJ.out,fun i hi=>?_⟩,by simp [intOf];omega⟩
        rcases HKK.out i hi with h1 | h1
        ·exact HAQ.out i h1
        ·rw [h1,HX.out]
         exact ⟨rfl,fun j' hj'=>HAJ.out j' (by rw [hjm',← hlm];exact hj')⟩
       ·have hxb:(xs.toList == []) = false:=by
         cases hz:(xs.toList == []) with
         | false=>rfl
         | true =>
          have:xs.toList = []:=by simpa using hz
          exact absurd (text_is (k:=⟨#[]⟩) this) hxs
        go_wp2
        go_ret
        exact ⟨rfl,HVJ.out.bl⟩
    ·have hqi:¬ (q:Int) < k:=by omega
     obtain rfl:q = k:=by omega
     have hapart:∀ i,i < q→Ve.Apart c 777777 (snth l i):=fun i hi=>by
      obtain ⟨h1,h2⟩:=HAL.out i hi
      obtain ⟨h3,h4⟩:=HAQ.out i hi
      refine ⟨h1,h2,h3,fun x hx=>?_⟩
      obtain ⟨j,hj,e⟩:=List.getElem_of_mem hx
      have:=h4 j hj
      unfold anth at this
      rw [List.getD_eq_getElem?_getD,List.getElem?_eq_getElem hj] at this
      rw [← e];exact this
     obtain ⟨hQ,hon,hnow⟩:=HQW'.out hapart
     have HQ:=hide hQ;have HON:=hide hon;have HNOW:=hide hnow
     clear hapart hQ hon hnow HAQ HAL HQW' hq hqi
     have HF1:=hide (fun W'=>frame_of 108 c 1 0 0 0 0 0 W' (Ve.login_ok hc6))
     have HF2:=hide (fun W'=>frame_of 111 c 2 it sd pr qt 777777 W' HCD.out)
     have e1:strOfNums (Wi.frame 108 c 1 0 0 0 0 0) = Ve.frameOf (Ve.login c):=by
      unfold Ve.frameOf encText Ve.login;exact (if_pos (Ve.login_ok hc6)).symm
     have e2:strOfNums (Wi.frame 111 c 2 it sd pr qt 777777) = Ve.frameOf ⟨111,c,2,it,sd,pr,qt,777777⟩:=by
      unfold Ve.frameOf encText;exact (if_pos HCD.out).symm
     rw [e1] at HF1
     rw [e2] at HF2
     have hz1:=frameOf_size (Ve.login c)
     have hz2:=frameOf_size ⟨111,c,2,it,sd,pr,qt,777777⟩
     obtain ⟨r1,r2⟩:=Ve.two_feed (S:=S5) hc6 ⟨111,c,2,it,sd,pr,qt,777777⟩ HAC.out rfl rfl rfl HQ.out.dn HON.out (HQ.out.lf c hc6) (by rw [HQ.out.q];decide)
     have HFD:=hide (fun W' (h':Below wr.heap.size wr W')=>vfeed_any (c:Int) (Ve.frameOf (Ve.login c)++Ve.frameOf ⟨111,c,2,it,sd,pr,qt,777777⟩) W' (HVQ.out.later h') hs.out (fun d hd=>by
      have:=HO5.out.lf d hd
      rw [ByteArray.size_append,ByteArray.size_append];omega))
     rw [r1,r2] at HFD
     generalize Ve.frameOf (Ve.login c) = fa at *
     generalize Ve.frameOf ⟨111,c,2,it,sd,pr,qt,777777⟩ = fb at *
     have hcat:¬ 9223372036854775807 < fa.size + fb.size:=by omega
     have HO6:Hid (Ve.Ok 300 10 2 (Ve.twoS S5 c ⟨111,c,2,it,sd,pr,qt,777777⟩)):=by
      have h1:=feed_ok HO5.out (c:Int) (fa++fb)
      rw [r2] at h1
      exact ok_more h1 (by omega)
     have HT:=hide (Ve.told3 (seed:=5) (Ve.Qt.two (a:=⟨111,c,2,it,sd,pr,qt,777777⟩) HQ.out) hc6 (show S5.now≤990 by have:=HNOW.out;omega) (show upd S5.la c (S5.now:Int) c = _ from upd_same _ _ _) rfl HAC.out)
     obtain ⟨XT,val,hcl,hmk⟩:=class_all (fun W'=>W'.heap[p]? = some (.cells #[.int .u8 111,.int .i64 c,.int .i64 2,.int .i64 it,.int .i64 sd,.int .i64 pr,.int .i64 qt,.int .i64 777777] 45 (0,0)))
     obtain ⟨x0,hx0⟩:=hmk wr.drew HBQ.out.row
     have hnx0:Nonempty XT:=⟨x0⟩
     have s0:∀ x,(val x).cell? ⟨p,0,none⟩ = some (.int .u8 111):=fun x=>by rw [cell_of_row _ _ _ _ _ _ (hcl x)];rfl
     have s1:∀ x,(val x).cell? ⟨p,1,none⟩ = some (.int .i64 c):=fun x=>by rw [cell_of_row _ _ _ _ _ _ (hcl x)];rfl
     have s2:∀ x,(val x).cell? ⟨p,2,none⟩ = some (.int .i64 2):=fun x=>by rw [cell_of_row _ _ _ _ _ _ (hcl x)];rfl
     have s3:∀ x,(val x).cell? ⟨p,3,none⟩ = some (.int .i64 it):=fun x=>by rw [cell_of_row _ _ _ _ _ _ (hcl x)];rfl
     have s4:∀ x,(val x).cell? ⟨p,4,none⟩ = some (.int .i64 sd):=fun x=>by rw [cell_of_row _ _ _ _ _ _ (hcl x)];rfl
     have s5:∀ x,(val x).cell? ⟨p,5,none⟩ = some (.int .i64 pr):=fun x=>by rw [cell_of_row _ _ _ _ _ _ (hcl x)];rfl
     have s6:∀ x,(val x).cell? ⟨p,6,none⟩ = some (.int .i64 qt):=fun x=>by rw [cell_of_row _ _ _ _ _ _ (hcl x)];rfl
     have s7:∀ x,(val x).cell? ⟨p,7,none⟩ = some (.int .i64 777777):=fun x=>by rw [cell_of_row _ _ _ _ _ _ (hcl x)];rfl
     have HMK:=hide hmk
     clear hmk hcl r1 r2 e1 e2 HO5 HQ HON HNOW HCD HAC
     go_wp2
     refine region_many_calls (val:=val) [4,6,8] [0,1,2,3,5,4,6,7,8,9] (by kernel_rfl) (by kernel_rfl) x0 hx0 ?_
     rw [hx0]
     clear hx0
     iterate 5 (refine walkM_read rfl rfl (fun K hK=>?_);refine ⟨by rfl,?_⟩;unfold isRd;go_simp;refine hK _ ?_;clear hK K)
     refine walkM_call rfl rfl (fun K hK=>?_)
     refine ⟨by rfl,?_⟩
     unfold upM
     go_simp
     refine (HF1.out _).mono ?_
     rintro e wa ⟨rfl,hba⟩
     have HBa:Hid (Below wr.heap.size wr wa):=drew_below'.trans hba
     refine ⟨_,rfl,HMK.out _ (s_row_later HBa.out HBQ.out.row),hK _ _ ?_⟩
     clear hK K hba
     refine walkM_call rfl rfl (fun K hK=>?_)
     refine ⟨by rfl,?_⟩
     unfold upM
     go_simp
     refine (HF2.out _).mono ?_
     rintro e wb ⟨rfl,hbb⟩
     have HBb:Hid (Below wr.heap.size wr wb):=HBa.out.trans (hbb.mono HBa.out.size)
     refine ⟨_,rfl,HMK.out _ (s_row_later HBb.out HBQ.out.row),hK _ _ ?_⟩
     clear hK K hbb HBa
     refine walkM_read rfl rfl (fun K hK=>?_);refine ⟨by rfl,?_⟩;unfold isRd;go_simp;refine hK _ ?_;clear hK K
     refine walkM_call rfl rfl (fun K hK=>?_)
     refine ⟨by rfl,?_⟩
     unfold upM
     go_simp
     refine (HFD.out _ HBb.out).mono ?_
     rintro e wc ⟨vc,Xc,rfl,hrc,hvc,hsc⟩
     have HBc:=hide ((HBQ.out.later HBb.out).step hsc)
     obtain ⟨ar,cr,hvr⟩:=row_form hrc
     obtain ⟨g,hg⟩:∃ g,ar = some ⟨g,0,none⟩:=by
      rcases hrc.2 with ⟨e1,e2⟩ | ⟨g,cap,cur,e1,_⟩
      ·cases e2
      ·rw [hvr] at e1;simp only [Value.slice.injEq] at e1;exact ⟨g,e1.1⟩
     subst hg
     subst hvr
     have cel:∀ j u,(repC ⟨c,Ve.kAcc,777777,0,0,0⟩)[j]? = some u→wc.cell? ⟨g,j,none⟩ = some u:=fun j u hj=>by
      have:=World.ownsRow.cells hrc (g:=g) rfl j u (by simpa [rflat] using hj)
      have hp:(⟨g,0,none⟩:Addr).add j = ⟨g,j,none⟩:=by unfold Addr.add;split <;> simp_all
      rwa [hp] at this
     have c0:wc.cell? ⟨g,0,none⟩ = some (.int .i64 c):=cel 0 _ rfl
     have c1:wc.cell? ⟨g,1,none⟩ = some (.string ⟨#[97,99,99,101,112,116,101,100]⟩):=cel 1 _ rfl
     have c2:wc.cell? ⟨g,2,none⟩ = some (.int .i64 777777):=cel 2 _ rfl
     have c3:wc.cell? ⟨g,3,none⟩ = some (.int .i64 0):=cel 3 _ rfl
     have c4:wc.cell? ⟨g,4,none⟩ = some (.int .i64 0):=cel 4 _ rfl
     have c5:wc.cell? ⟨g,5,none⟩ = some (.int .i64 0):=cel 5 _ rfl
     have c7:wc.cell? ⟨p,7,none⟩ = some (.int .i64 777777):=by rw [cell_of_row _ _ 7 _ _ _ HBc.out.row];rfl
     have hgl:g < wc.heap.size:=World.block_lt_of_cell? _ _ c0
     have HVc:=hide hvc
     refine ⟨_,rfl,HMK.out _ HBc.out.row,hK _ _ ?_⟩
     clear hK K hrc hvc hsc cel HFD HMK HBb s0 s1 s2 s3 s4 s5 s6 s7 HF1 HF2
     refine walkM_read rfl rfl (fun K hK=>?_);refine ⟨by rfl,?_⟩;unfold isRd;go_simp;refine hK _ ?_;clear hK K
     refine walkM_nil ?_
     clear x0 hnx0
     clear val
     clear XT
     generalize Ve.twoS S5 c ⟨111,c,2,it,sd,pr,qt,777777⟩ = S6 at *
     go_wp2
     go_quiet (fail)
     have HVd:=hide (HVc.out.later (blw_drew nq));have HBd:=hide (HBc.out.later (blw_drew nq))
     generalize wc.drewN nq = wd at *
     obtain ⟨nb,hnb⟩:∃ nb,wd.heap.size = nb:=⟨_,rfl⟩
     have HNB:=hide (Nat.le_of_eq hnb.symm)
     have hlW:W.heap.size≤nb:=by rw [← hnb];exact HVd.out.bl.size
     clear c0 c1 c2 c3 c4 c5 c7 hgl HVc HBc hnb
     go_wp2_with fail
     go_loopw [21,22] (fun av kv wt=>∃ (j:Nat) (Y:Vx),j≤3∧kv = .int .i64 j∧Ven W wt B Y 10 2 5 (Ve.ticksS 10 2 5 S6 j)∧Bes wt B Y p #[.int .u8 111,.int .i64 c,.int .i64 2,.int .i64 it,.int .i64 sd,.int .i64 pr,.int .i64 qt,.int .i64 777777] 45∧Reps wt nb av (Ve.ticksR 10 2 5 S6 j)∧Ve.Ok (300 + j) 10 2 (Ve.ticksS 10 2 5 S6 j)∧(Ve.ticksR 10 2 5 S6 j).length≤2900 * j∧nb≤wt.heap.size) (fun _ kv _=>3 - (intOf kv).toNat)
     case atStart=>exact ⟨0,Xc,by omega,rfl,HVd.out,HBd.out,World.ownsRow_nil _ _ _ _,HO6.out,Nat.le_refl _,HNB.out⟩
     case round =>
      obtain ⟨j,Y,hj3,rfl,hvj,hbj,hrj,hoj,hlj,hnj⟩:=hrel
      have HVJ:=hide hvj;have HBJ:=hide hbj;have HRJ:=hide hrj;have HOJ:=hide hoj;have HLJ:=hide hlj
      clear hvj hbj hrj hoj hlj HVd HBd HNB
      by_cases hj:j < 3
      ·have hji:(j:Int) < 3:=by omega
       have HN1:Hid (Ve.ticksS 10 2 5 S6 (j + 1) = Ve.tickS 10 2 5 (Ve.ticksS 10 2 5 S6 j)):=rfl
       have HN2:Hid (Ve.ticksR 10 2 5 S6 (j + 1) = Ve.ticksR 10 2 5 S6 j++Ve.tickR 10 2 5 (Ve.ticksS 10 2 5 S6 j)):=rfl
       generalize Ve.ticksS 10 2 5 S6 j = S7 at *
       generalize Ve.ticksR 10 2 5 S6 j = R7 at *
       have HTK:=hide (tick_any wr HVJ.out hs.out ht.out HOJ.out (by omega))
       go_wp2_with fail
       refine HTK.out.mono ?_
       rintro e w4 ⟨v4,X4,rfl,h4,hs4,hr4,ho4,hl4,_⟩
       have hR4:Reps w4 nb u21 R7:=hs4.row HVJ.out HRJ.out (by decide)
       have hB4:=HBJ.out.step hs4
       have hb4:nb≤w4.heap.size:=Nat.le_trans hnj hs4.turned.size
       obtain ⟨v5,w5,hap,hr5,hg5⟩:=run_append_reps w4 u21 v4 R7 (Ve.tickR 10 2 5 S7) hR4 hr4 (by have:=HLJ.out;omega) (by omega) hb4
       have HV5:=hide (h4.grown hR4 (by decide) (by decide) hlW hg5)
       have HB5:Hid (Bes w5 B X4 p #[.int .u8 111,.int .i64 c,.int .i64 2,.int .i64 it,.int .i64 sd,.int .i64 pr,.int .i64 qt,.int .i64 777777] 45):=by
        refine ⟨?_,hB4.no⟩
        rw [hg5.block p (lt_of_block hB4.row) (fun e=>?_)]
        ·exact hB4.row
        ·obtain ⟨_,cur,h2⟩:=row_block hR4 e.symm
         exact blkT h2 hB4.row (by decide) rfl
       have HR5:=hide hr5;have HAP:=hide hap;have HO5:=hide ho4
       have hn5:nb≤w5.heap.size:=Nat.le_trans hb4 hg5.size
       clear hap hr5 hg5 hR4 hB4 h4 hs4 hr4 ho4 HTK
       simp only []
       go_wp2_with (at_builtin;refine wpList_append_run rfl _ _ 42 rfl _ _ _ rfl rfl HAP.out ?_)
       refine ⟨⟨j + 1,X4,hj,by go_num,?_,HB5.out,?_,?_,?_,hn5⟩,by simp [intOf];omega⟩
       ·rw [HN1.out];exact HV5.out
       ·rw [HN2.out];exact HR5.out
       ·rw [HN1.out];exact HO5.out
       ·rw [HN2.out,List.length_append];have:=HLJ.out;omega
      ·have hji:¬ (j:Int) < 3:=by omega
       have hj3e:j = 3:=by omega
       rw [hj3e] at HRJ HLJ HVJ
       clear HOJ
       generalize Ve.ticksS 10 2 5 S6 3 = S7 at *
       generalize Ve.ticksR 10 2 5 S6 3 = R at *
       have hRl:=HLJ.out
       obtain ⟨ra,rc,hrv⟩:=row_form HRJ.out
       subst hrv
       have HSUB:Hid (∀ i r,r∈Ve.dp 777777 (R.take i)→r∈Ve.dp 777777 R):=fun i r hr=>by rw [dp_split 777777 R i];exact List.mem_append_left _ hr
       have HLEN:Hid (∀ i,(Ve.dp 777777 (R.take i)).length≤8700):=fun i=>by
        have h1:=List.length_filter_le (fun r:Ve.Rep=>r.id == 777777) (R.take i)
        have h2:=List.length_take_le i R
        have h3:(R.take i).length≤R.length:=by rw [List.length_take];omega
        show (List.filter _ _).length≤_
        omega
       have HT':Hid (Ve.Told c qt (Ve.dp 777777 R)∨∃ e:Nat,0 < e∧Ve.dp 777777 R = [Ve.refu c 777777 e]):=HT.out
       clear HT hj hj3 HLJ
       go_wp2_with fail
       go_loopw [24,25,26,27] (fun nv fv rv iv wt=>∃ i:Nat,i≤R.length∧iv = .int .i64 i∧nv = .int .i64 ((Ve.dp 777777 (R.take i)).length:Nat)∧fv = .int .i64 (Ve.sumF (Ve.dp 777777 (R.take i)))∧rv = .int .i64 (Ve.sumR (Ve.dp 777777 (R.take i)))∧Ven W wt B Y 10 2 5 S7∧Bes wt B Y p #[.int .u8 111,.int .i64 c,.int .i64 2,.int .i64 it,.int .i64 sd,.int .i64 pr,.int .i64 qt,.int .i64 777777] 45∧Reps wt nb (.slice ra R.length rc) R∧∀ r∈Ve.dp 777777 (R.take i),r.k≠Ve.kRef) (fun _ _ _ iv _=>R.length - (intOf iv).toNat)
       case atStart=>exact ⟨0,by omega,rfl,rfl,rfl,rfl,HVJ.out,HBJ.out,HRJ.out,fun _ h=>by cases h⟩
       case round =>
        obtain ⟨i,hiR,rfl,rfl,rfl,rfl,hvi,hbi,hri,hnr⟩:=hrel
        have HVI:=hide hvi;have HBI:=hide hbi;have HRI:=hide hri;have HNR:=hide hnr
        clear hvi hbi hri hnr HVJ HBJ HRJ
        by_cases hi:i < R.length
        ·have hii:(i:Int) < (R.length:Int):=by omega
         have hdt:=dp_take (D:=777777) hi
         have hmem:(rnth R i).id = 777777→rnth R i∈Ve.dp 777777 R:=fun e=>HSUB.out (i + 1) _ (by rw [hdt,if_pos e];simp)
         have hpre:(rnth R i).id = 777777→Ve.dp 777777 R = (Ve.dp 777777 (R.take i)++[rnth R i])++Ve.dp 777777 (R.drop (i + 1)):=fun e=>by rw [dp_split 777777 R (i + 1),hdt,if_pos e]
         have hln:=HLEN.out i
         have hbd:(Ve.Told c qt (Ve.dp 777777 R))→(0≤Ve.sumF (Ve.dp 777777 (R.take i))∧Ve.sumF (Ve.dp 777777 (R.take i))≤8700000000)∧(0≤Ve.sumR (Ve.dp 777777 (R.take i))∧Ve.sumR (Ve.dp 777777 (R.take i))≤8700000000):=fun ht=>by
          have:=sum_bd (P:=Ve.dp 777777 (R.take i)) (fun r hr=>ht.bd r (HSUB.out i r hr))
          omega
         have c7:wr.cell? ⟨p,7,none⟩ = some (.int .i64 777777):=by rw [cell_of_row _ _ 7 _ _ _ HBI.out.row];rfl
         rcases row_reps HRI.out with ⟨e1,e2⟩ | ⟨g,cap2,e1,hat2⟩
         ·rw [e2] at hi;cases hi
         obtain ⟨e3,_⟩:ra = some ⟨g,0,none⟩∧True:=by
          simp only [Value.slice.injEq] at e1;exact ⟨e1.1,trivial⟩
         obtain ⟨d0,d1,d2,d3,d4,d5⟩:=hat2 i hi
         rw [Nat.zero_add] at d0 d1 d2 d3 d4 d5
         clear e1 hat2
         subst e3
         obtain ⟨x,hx⟩:∃ x,rnth R i = x:=⟨_,rfl⟩
         rw [hx] at hdt hmem hpre d0 d1 d2 d3 d4 d5
         clear hx
         obtain ⟨xc,xk,xid,xpr,xq,xcd⟩:=x
         simp only [] at hdt hmem hpre d0 d1 d2 d3 d4 d5
         have hgl:g < wr.heap.size:=World.block_lt_of_cell? _ _ d0
         by_cases hid:xid = 777777
         ·subst hid
          have HM:=hide (hmem rfl);have HP:=hide (hpre rfl)
          rw [if_pos rfl] at hdt
          have HDT:=hide hdt
          clear hmem hpre hdt
          rcases HT'.out with hT | ⟨ec,hec,hT⟩
          ·obtain ⟨hb1,hb2⟩:=hbd hT
           obtain ⟨hxc,hxk⟩:=hT.mine _ HM.out
           obtain ⟨hq1,hq2⟩:=hT.bd _ HM.out
           simp only [] at hxc hxk hq1 hq2
           subst hxc
           have HXK:=hide hxk
           have HNXT:Hid (∀ r∈Ve.dp 777777 (R.take (i + 1)),r.k≠Ve.kRef):=fun r hr=>by
            rw [HDT.out] at hr
            rcases List.mem_append.1 hr with hr | hr
            ·exact HNR.out r hr
            ·rw [List.mem_singleton.1 hr];exact HXK.out
           clear hxk hbd
           have HL1:Hid (((Ve.dp 777777 (R.take (i + 1))).length:Nat) = (Ve.dp 777777 (R.take i)).length + 1):=by show _ = _;rw [HDT.out,List.length_append];rfl
           cases hk1:(xk.toList == [102,105,108,108,101,100]) with
           | true =>
            have ek:xk = Ve.kFill:=text_is (k:=Ve.kFill) (show xk.toList = [102,105,108,108,101,100] by simpa using hk1)
            have HS1:Hid (Ve.sumF (Ve.dp 777777 (R.take (i + 1))) = Ve.sumF (Ve.dp 777777 (R.take i)) + xq):=by
             show _ = _;rw [HDT.out,Ve.sumF_append];congr 1;rw [Ve.sumF,if_pos (show xk = Ve.kFill from ek)];show xq + 0 = xq;omega
            have HS2:Hid (Ve.sumR (Ve.dp 777777 (R.take (i + 1))) = Ve.sumR (Ve.dp 777777 (R.take i))):=by
             show _ = _;rw [HDT.out,Ve.sumR_append,Ve.sumR,if_neg (show ¬ xk = Ve.kRest by rw [ek];decide)];show _ + (0 + 0) = _;omega
            clear ek
            go_wp2
            go_quiet (fail)
            go_wp2
            refine ⟨⟨i + 1,hi,by go_num,?_,?_,?_,HVI.out.later (blw_drew nq),HBI.out.later (blw_drew nq),row_later HRI.out (blw_drew nq),HNXT.out⟩,by simp [intOf];omega⟩
            ·rw [HL1.out];go_num
            ·rw [HS1.out]
            ·rw [HS2.out]
           | false =>
            have nk1:¬ xk = Ve.kFill:=fun e=>by rw [e,ByteArray.toList_eq] at hk1;revert hk1;decide
            have HS1:Hid (Ve.sumF (Ve.dp 777777 (R.take (i + 1))) = Ve.sumF (Ve.dp 777777 (R.take i))):=by
             show _ = _;rw [HDT.out,Ve.sumF_append,Ve.sumF,if_neg (show ¬ xk = Ve.kFill from nk1)];show _ + (0 + 0) = _;omega
            cases hk2:(xk.toList == [114,101,115,116,115]) with
            | true =>
             have ek:xk = Ve.kRest:=text_is (k:=Ve.kRest) (show xk.toList = [114,101,115,116,115] by simpa using hk2)
             have HS2:Hid (Ve.sumR (Ve.dp 777777 (R.take (i + 1))) = Ve.sumR (Ve.dp 777777 (R.take i)) + xq):=by
              show _ = _;rw [HDT.out,Ve.sumR_append];congr 1;rw [Ve.sumR,if_pos (show xk = Ve.kRest from ek)];show xq + 0 = xq;omega
             clear nk1 ek
             go_wp2
             go_quiet (fail)
             go_wp2
             refine ⟨⟨i + 1,hi,by go_num,?_,?_,?_,HVI.out.later (blw_drew nq),HBI.out.later (blw_drew nq),row_later HRI.out (blw_drew nq),HNXT.out⟩,by simp [intOf];omega⟩
             ·rw [HL1.out];go_num
             ·rw [HS1.out]
             ·rw [HS2.out]
            | false =>
             have nk2:¬ xk = Ve.kRest:=fun e=>by rw [e,ByteArray.toList_eq] at hk2;revert hk2;decide
             have HS2:Hid (Ve.sumR (Ve.dp 777777 (R.take (i + 1))) = Ve.sumR (Ve.dp 777777 (R.take i))):=by
              show _ = _;rw [HDT.out,Ve.sumR_append,Ve.sumR,if_neg (show ¬ xk = Ve.kRest from nk2)];show _ + (0 + 0) = _;omega
             have hk3:(xk.toList == [114,101,102,117,115,101,100]) = false:=by
              cases hz:(xk.toList == [114,101,102,117,115,101,100]) with
              | false=>rfl
              | true=>exact absurd (text_is (k:=Ve.kRef) (show xk.toList = [114,101,102,117,115,101,100] by simpa using hz)) HXK.out
             clear nk1 nk2
             go_wp2
             go_quiet (fail)
             go_wp2
             refine ⟨⟨i + 1,hi,by go_num,?_,?_,?_,HVI.out.later (blw_drew nq),HBI.out.later (blw_drew nq),row_later HRI.out (blw_drew nq),HNXT.out⟩,by simp [intOf];omega⟩
             ·rw [HL1.out];go_num
             ·rw [HS1.out]
             ·rw [HS2.out]
          ·have hP:=HP.out
           rw [hT] at hP
           have hnil:Ve.dp 777777 (R.take i) = []:=by
            have h1:=congrArg List.length hP
            simp only [List.length_append,List.length_singleton] at h1
            exact List.eq_nil_of_length_eq_zero (by omega)
           have hM:=HM.out
           rw [hT] at hM
           have hxe:=List.mem_singleton.1 hM
           unfold Ve.refu at hxe
           simp only [Ve.Rep.mk.injEq] at hxe
           obtain ⟨x1,x2,_,x4,x5,x6⟩:=hxe
           have hxcd:(0:Int) < xcd:=by rw [x6];omega
           unfold Ve.kRef at x2
           subst x1 x2
           have hn0:(((Ve.dp 777777 (R.take i)).length:Nat):Int) = 0:=by rw [hnil];rfl
           rw [hn0]
           clear hP hM x4 x5 x6 hnil hT HM HP HDT hbd hln hn0
           go_wp2
           go_quiet (fail)
           go_wp2
           go_ret
           exact ⟨rfl,HVI.out.bl.trans ((blw_drew nq).mono HVI.out.bl.size)⟩
         ·have hxb:(xid != 777777) = true:=by simpa using hid
          rw [if_neg hid,List.append_nil] at hdt
          have HDT:=hide hdt
          clear hmem hpre hdt hbd hid
          go_wp2
          go_quiet (fail)
          go_wp2
          refine ⟨⟨i + 1,hi,by go_num,?_,?_,?_,HVI.out.later (blw_drew nq),HBI.out.later (blw_drew nq),row_later HRI.out (blw_drew nq),?_⟩,by simp [intOf];omega⟩
          ·rw [HDT.out]
          ·rw [HDT.out]
          ·rw [HDT.out]
          ·rw [HDT.out];exact HNR.out
        ·have hii:¬ (i:Int) < (R.length:Int):=by omega
         have htk:R.take i = R:=List.take_of_length_le (by omega)
         rw [htk] at HNR
         rw [htk]
         rcases HT'.out with hT | ⟨ec,hec,hT⟩
         ·obtain ⟨⟨f1,f2⟩,f3,f4⟩:=sum_bd hT.bd
          have hl1:0 < (Ve.dp 777777 R).length:=List.length_pos_iff.2 hT.some
          have hl2:=HLEN.out i
          rw [htk] at hl2
          have hsum:=hT.sum
          clear hT HT' HNR HSUB HLEN htk
          generalize Ve.sumF (Ve.dp 777777 R) = sf at *
          generalize Ve.sumR (Ve.dp 777777 R) = sr at *
          generalize (Ve.dp 777777 R).length = dn at *
          have hdn:(0:Int) < (dn:Int):=by omega
          subst hsum
          go_wp2
          go_ret
          exact ⟨rfl,HVI.out.bl⟩
         ·exact absurd rfl (HNR.out (Ve.refu c 777777 ec) (by rw [hT];exact List.mem_singleton.2 rfl))
end
end Go.Proofs.YtidahfhingdlmaaGreatDoor
