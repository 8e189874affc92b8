/- Who is off has nothing that waits, and is to be dropped or has nothing that rests: plain facts. -/
import Derived.Test.YtidahfhingdlmaaGreatDoorU37
namespace Go.Proofs.YtidahfhingdlmaaGreatDoor
set_option maxRecDepth 100000
namespace Ve
def NoLots (L:Nat→List Cv.Lot) (c:Nat):Prop:=∀ i,i < 3→∀ x∈L i,x.ow≠(c:Int)
structure J (S:St):Prop where
 q:∀ c,c < 6→∀ a∈S.Q c,a.c = (c:Int)
 off:∀ c,c < 6→S.on c = false→S.Q c = []∧(S.dr c = true∨NoLots S.L c)
 tn:S.t < 6
theorem J.init (ref cash stock:Int):J (Ve.init ref cash stock) :=
 ⟨fun _ _ _ h=>(by cases h),fun _ _ _=>⟨rfl,.inr fun _ _ _ h=>(by cases h)⟩,(show 0 < 6 by decide)⟩
theorem clear_at (Q:Nat→List Ask) {n:Nat} (hn:n < 6) (c:Nat):Ik.clearL Q n c = if c = n then [] else Q c:=by
 have h:Ik.isC (n:Int) = true:=by unfold Ik.isC;simp;omega
 have e:((n:Int)).toNat = n:=by omega
 unfold Ik.clearL
 rw [if_pos h,e]
 rfl
theorem J.left {S S':St} (h:J S) {n:Nat} (hn:n < 6) (hQ:S'.Q = Ik.clearL S.Q n) (hd:S'.dr = upd S.dr n true) (hL:S'.L = S.L) (ho:∀ c,c≠n→S'.on c = S.on c) (ht:S'.t = S.t):J S':=by
 refine ⟨fun c hc a ha=>?_,fun c hc hoff=>?_,by rw [ht];exact h.tn⟩
 ·rw [hQ,clear_at _ hn] at ha
  split at ha
  ·cases ha
  ·exact h.q c hc a ha
 ·rw [hQ,clear_at _ hn,hd,hL]
  by_cases e:c = n
  ·subst e
   rw [if_pos rfl]
   exact ⟨rfl,.inl (by simp [upd])⟩
  ·rw [if_neg e]
   have:=h.off c hc (by rw [← ho c e];exact hoff)
   refine ⟨this.1,?_⟩
   rcases this.2 with h1 | h1
   ·exact .inl (by unfold upd;rw [if_neg e];exact h1)
   ·exact .inr h1
theorem J.hang {S:St} (h:J S) {n:Nat} (hn:n < 6):J (hang S n):=by
 unfold Ve.hang
 split
 ·exact h.left hn rfl rfl rfl (fun c hc=>by unfold gone upd;simp only;rw [if_neg hc]) rfl
 ·exact h
theorem J.hangs {S:St} (h:J S):∀ n,n≤6→J (hangs S n)
 | 0,_=>h
 | n + 1,hn=>(J.hangs h n (by omega)).hang (by omega)
theorem J.hear {S:St} (h:J S) {n:Nat} (hn:n < 6) (f:ByteArray):J (hearS S n f):=by
 unfold hearS
 split
 ·split
  ·rename_i h1 h2
   generalize hb:askOf f = a at *
   have hac:a.c = (n:Int):=by
    unfold takeC at h2
    split at h2
    ·assumption
    ·cases h2
   have htc:Se.tc (S.on n) (S.nx n) a = 0:=by
    unfold takeC at h2
    rw [if_pos hac] at h2;exact h2
   have hon:a.k≠113→(taken S n a).on n = true:=fun hk=>by
    unfold taken upd Se.tO
    simp only [if_true]
    rw [if_pos htc]
    simp [hk]
   have hoc:∀ c,c≠n→(taken S n a).on c = S.on c:=fun c hc=>by unfold taken upd;simp only;rw [if_neg hc]
   split
   ·rename_i hO
    have hk:a.k≠113:=by
     intro e;unfold isO at hO;rw [e] at hO;revert hO;decide
    have hput:∀ c,c≠n→Ik.putL S.Q a c = S.Q c:=fun c hc=>by
     unfold Ik.putL
     split
     ·rw [hac];unfold Ik.upd;rw [if_neg (by omega)]
     ·rfl
    refine ⟨fun c hc x hx=>?_,fun c hc hoff=>?_,h.tn⟩
    ·by_cases e:c = n
     ·subst e
      have hx':x∈Ik.putL S.Q a c:=hx
      unfold Ik.putL at hx'
      split at hx'
      ·rw [hac,show ((c:Int)).toNat = c by omega] at hx'
       unfold Ik.upd at hx'
       rw [if_pos rfl,List.mem_append] at hx'
       rcases hx' with h3 | h3
       ·exact h.q c hc x h3
       ·rw [List.mem_singleton.1 h3];exact hac
      ·exact h.q c hc x hx'
     ·have hx':x∈Ik.putL S.Q a c:=hx
      rw [hput c e] at hx'
      exact h.q c hc x hx'
    ·have hoff':(taken S n a).on c = false:=hoff
     by_cases e:c = n
     ·subst e;rw [hon hk] at hoff';cases hoff'
     ·rw [hoc c e] at hoff'
      have:=h.off c hc hoff'
      show Ik.putL S.Q a c = []∧(S.dr c = true∨NoLots S.L c)
      rw [hput c e];exact this
   ·split
    ·exact h.left (S':=leave (taken S n a) n) hn rfl rfl rfl hoc rfl
    ·rename_i hk
     refine ⟨h.q,fun c hc hoff=>?_,h.tn⟩
     by_cases e:c = n
     ·subst e;rw [hon hk] at hoff;cases hoff
     ·rw [hoc c e] at hoff;exact h.off c hc hoff
  ·exact h
 ·exact h
theorem J.hears {S:St} (h:J S) {n:Nat} (hn:n < 6) (b:ByteArray):∀ k,J (hearsS S n b k)
 | 0=>h
 | k + 1=>(J.hears h hn b k).hear hn _
theorem J.feed {S:St} (h:J S) (n:Int) (s:ByteArray):J (feedS S n s):=by
 unfold feedS
 split
 ·exact h
 ·rename_i hw
  have hn:n.toNat < 6:=by
   have:Wi.withinB n 0 5 = true:=by
    cases e:Wi.withinB n 0 5 with
    | true=>rfl
    | false=>exact absurd (.inr e) hw
   unfold Wi.withinB at this
   simp at this
   omega
  exact J.hears (S:=fedS S n.toNat (S.lf n.toNat++s)) ⟨h.q,h.off,h.tn⟩ hn _ _
theorem J.cut {S:St} (h:J S) (n:Int):J (cutS S n):=by
 unfold cutS
 split
 ·exact ⟨h.q,h.off,h.tn⟩
 ·exact h
theorem out_mem {Q:Nat→List Ask} {t:Nat} (ht:t < 6):∀ k,k≤6→∀ a∈Ik.ouN Q t k,∃ c,c < 6∧a∈Q c
 | 0,_,a,h=>by cases h
 | k + 1,hk,a,h=>by
  rw [Ik.ouN_succ Q ht (by omega),List.mem_append] at h
  rcases h with h | h
  ·exact out_mem ht k (by omega) a h
  ·exact ⟨Ik.who t k,Ik.who_lt t k,List.mem_of_mem_take h⟩
theorem drL_sub {Q:Nat→List Ask} {t:Nat} (ht:t < 6) (c:Nat):(∀ a∈Ik.drL Q t c,a∈Q c)∧(Q c = []→Ik.drL Q t c = []):=by
 unfold Ik.drL
 rw [Ik.drN_at Q ht 6 (Nat.le_refl _) c]
 split
 ·exact ⟨fun a h=>List.mem_of_mem_drop h,fun e=>by rw [e];rfl⟩
 ·exact ⟨fun _ h=>h,fun e=>e⟩
theorem J.drained {S:St} (h:J S):J (drained S):=by
 refine ⟨fun c hc a ha=>h.q c hc a ((drL_sub h.tn c).1 a ha),fun c hc hoff=>?_,Ik.who_lt _ _⟩
 have:=h.off c hc hoff
 exact ⟨(drL_sub h.tn c).2 this.1,this.2⟩
theorem J.app {S:St} (h:J S) (s:ByteArray):J (appS S s):=by
 unfold appS
 split
 ·exact h
 ·exact ⟨h.q,h.off,h.tn⟩
theorem dropR_no (r:Ro) (c:Nat):NoLots (dropR r c).L c∧∀ d,NoLots r.L d→NoLots (dropR r c).L d:=by
 have key:∀ i,i < 3→(dropR r c).L i = (r.L i).filter (fun x=>!(x.ow == (c:Int))):=fun i hi=>by
  show Fl.dL c r.L 3 i = _
  have:i = 0∨i = 1∨i = 2:=by omega
  rcases this with rfl | rfl | rfl <;> simp [Fl.dL,upd]
 refine ⟨fun i hi x hx=>?_,fun d hd i hi x hx=>?_⟩
 ·rw [key i hi,List.mem_filter] at hx
  simpa using hx.2
 ·rw [key i hi,List.mem_filter] at hx
  exact hd i hi x hx.1
theorem dropsR_no (r:Ro) (ds:List Nat):∀ k,k≤ds.length→(∀ d,NoLots r.L d→NoLots (dropsR r ds k).L d)∧∀ j,j < k→NoLots (dropsR r ds k).L (ds.getD j 0)
 | 0,_=>⟨fun _ h=>h,fun _ h=>by omega⟩
 | k + 1,hk=>by
  obtain ⟨h1,h2⟩:=dropsR_no r ds k (by omega)
  obtain ⟨h3,h4⟩:=dropR_no (dropsR r ds k) (ds.getD k 0)
  refine ⟨fun d hd=>h4 d (h1 d hd),fun j hj=>?_⟩
  by_cases e:j = k
  ·subst e;exact h3
  ·exact h4 _ (h2 j (by omega))
theorem askR_no (r:Ro) (a:Ask) {d:Nat} (hd:NoLots r.L d) (ha:a.c≠(d:Int)):NoLots (askR r a).L d:=by
 unfold askR
 split
 ·show NoLots (Fl.placeL r.L r.pf a) d
  unfold Fl.placeL
  split
  ·intro i hi x hx
   unfold upd at hx
   split at hx
   ·rename_i e
    rw [List.mem_append] at hx
    rcases hx with hx | hx
    ·exact hd _ (by omega) x hx
    ·rw [List.mem_singleton.1 hx];exact ha
   ·exact hd i hi x hx
  ·exact hd
 ·show NoLots (Fl.canL r.L a) d
  unfold Fl.canL
  split
  ·intro i hi x hx
   unfold upd at hx
   split at hx
   ·rename_i e
    unfold Bk.del at hx
    rw [List.mem_append] at hx
    rcases hx with hx | hx
    ·exact hd _ (by omega) x (List.mem_of_mem_take hx)
    ·exact hd _ (by omega) x (List.mem_of_mem_drop hx)
   ·exact hd i hi x hx
  ·exact hd
theorem asksR_no (r:Ro) (l:List Ask) {d:Nat} (hd:NoLots r.L d) (ha:∀ a∈l,a.c≠(d:Int)):∀ k,k≤l.length→NoLots (asksR r l k).L d
 | 0,_=>hd
 | k + 1,hk=>askR_no _ _ (asksR_no r l hd ha k (by omega)) (ha _ (by
  unfold anth
  rw [List.getD_eq_getElem?_getD,List.getElem?_eq_getElem (by omega)]
  exact List.getElem_mem _))
theorem tradeR_no (wd h:Int) (r:Ro) (i:Nat) (s:Int) {d:Nat} (hd:NoLots r.L d) (hi:i < 3):NoLots (tradeR wd h r i s).L d:=by
 intro j hj x hx
 have hx':x∈Fl.runL r.L i (tF wd r i s) j:=hx
 unfold Fl.runL upd at hx'
 split at hx'
 ·unfold Fs.restL at hx'
  obtain ⟨y,hy,_,rfl⟩:=Fu.rem_mem.1 hx'
  exact hd i hi y hy
 ·exact hd j hj x hx'
theorem tradesR_no (wd h seed:Int) (bt:Nat) (r:Ro) {d:Nat} (hd:NoLots r.L d):∀ k,k≤3→NoLots (tradesR wd h seed bt r k).L d
 | 0,_=>hd
 | k + 1,hk=>tradeR_no wd h _ k _ (tradesR_no wd h seed bt r hd k (by omega)) (by omega)
theorem dropsTo_mem (dr:Nat→Bool) {c:Nat} (hd:dr c = true):∀ k,c < k→c∈dropsTo dr k
 | 0,h=>by omega
 | k + 1,h=>by
  rw [dropsTo,List.mem_append]
  by_cases e:c = k
  ·subst e;rw [hd];exact .inr (by simp)
  ·exact .inl (dropsTo_mem dr hd k (by omega))
theorem mem_getD {ds:List Nat} {c:Nat} (h:c∈ds):∃ j,j < ds.length∧ds.getD j 0 = c:=by
 obtain ⟨j,hj,e⟩:=List.mem_iff_getElem.1 h
 exact ⟨j,hj,by rw [List.getD_eq_getElem?_getD,List.getElem?_eq_getElem hj];exact e⟩
theorem round_no {S S':St} (h:J S) (wd hh seed:Int) (hL:S'.L = S.L) {c:Nat} (hc:c < 6) (hoff:S.on c = false):NoLots (roundR wd hh seed S' (dropsTo S.dr 6) (Ik.out S.Q S.t)).L c:=by
 obtain ⟨h1,h2⟩:=h.off c hc hoff
 have hst:NoLots S.L c→NoLots (start S').L c:=fun h=>by show NoLots S'.L c;rw [hL];exact h
 obtain ⟨d1,d2⟩:=dropsR_no (start S') (dropsTo S.dr 6) (dropsTo S.dr 6).length (Nat.le_refl _)
 have hdr:NoLots (dropsR (start S') (dropsTo S.dr 6) (dropsTo S.dr 6).length).L c:=by
  rcases h2 with h2 | h2
  ·obtain ⟨j,hj,e⟩:=mem_getD (dropsTo_mem S.dr h2 6 hc)
   have:=d2 j hj
   rw [e] at this;exact this
  ·exact d1 c (hst h2)
 refine tradesR_no wd hh seed _ _ (asksR_no _ _ hdr (fun a ha=>?_) _ (Nat.le_refl _)) 3 (Nat.le_refl _)
 obtain ⟨c',hc',hm⟩:=out_mem h.tn 6 (Nat.le_refl _) a ha
 have e:=h.q c' hc' a hm
 intro e2
 rw [e] at e2
 have:c' = c:=by omega
 rw [this,h1] at hm
 cases hm
theorem J.batch {S:St} (h:J S) (wd hh seed:Int):J (batchS wd hh seed S):=by
 have ha:=h.drained.app (recS S)
 have hL:(appS (Ve.drained S) (recS S)).L = S.L:=by unfold appS;split <;> rfl
 have ho:(appS (Ve.drained S) (recS S)).on = S.on:=by unfold appS;split <;> rfl
 unfold batchS
 split
 ·refine ⟨ha.q,fun c hc hoff=>⟨(ha.off c hc hoff).1,.inr ?_⟩,ha.tn⟩
  have hoff':(appS (Ve.drained S) (recS S)).on c = false:=hoff
  rw [ho] at hoff'
  exact round_no h wd hh seed hL hc hoff'
 ·exact ⟨ha.q,ha.off,ha.tn⟩
theorem J.tick {S:St} (h:J S) (wd hh seed:Int):J (tickS wd hh seed S):=by
 have ht:J (tocks S):=J.hangs (S:={ S with now:=S.now + 1 }) ⟨h.q,h.off,h.tn⟩ 6 (Nat.le_refl _)
 unfold tickS
 split
 ·exact h
 ·split
  ·exact ht.batch wd hh seed
  ·exact ht
end Ve
end Go.Proofs.YtidahfhingdlmaaGreatDoor
