/- All fall silent: behind sixteen ticks nobody is on, and nothing rests or waits; plain facts. -/
import Derived.Test.YtidahfhingdlmaaGreatDoorZVeSilent
namespace Go.Proofs.YtidahfhingdlmaaGreatDoor
set_option maxRecDepth 100000
namespace Ve
def LaNow (S:St):Prop:=∀ c,c < 6→S.la c≤(S.now:Int)
theorem hangs_on (S:St):∀ n,∀ c,(hangs S n).on c = (if c < n∧Se.late (S.on c) (S.la c) S.now = true then false else S.on c)∧((hangs S n).on c = true→(hangs S n).la c = S.la c)∧((hangs S n).la c = S.la c∨(hangs S n).la c = 0)
 | 0,c=>⟨by simp [hangs],fun _=>rfl,.inl rfl⟩
 | n + 1,c=>by
  obtain ⟨h1,h2,h3⟩:=hangs_on S n c
  obtain ⟨g1,g2,g3⟩:=hangs_on S n n
  have hnow:(hangs S n).now = S.now:=(hangs_now S n).1
  have hnn:(hangs S n).on n = S.on n:=by rw [g1,if_neg (by omega)]
  unfold hangs hang
  split
  ·rename_i hl
   by_cases e:c = n
   ·subst e
    have hon:S.on c = true:=by
     unfold Se.late at hl;rw [hnn] at hl;simp at hl;exact hl.1
    have hla:(hangs S c).la c = S.la c:=h2 (by rw [hnn];exact hon)
    rw [hnn,hla,hnow] at hl
    refine ⟨?_,fun h=>?_,.inr ?_⟩
    ·rw [if_pos ⟨by omega,hl⟩];unfold gone upd;simp
    ·revert h;unfold gone upd;simp
    ·unfold gone upd;simp
   ·have e1:(gone (hangs S n) n).on c = (hangs S n).on c:=by unfold gone upd;simp only;rw [if_neg e]
    have e2:(gone (hangs S n) n).la c = (hangs S n).la c:=by unfold gone upd;simp only;rw [if_neg e]
    rw [e1,e2]
    refine ⟨?_,h2,h3⟩
    rw [h1]
    by_cases hc:c < n
    ·simp [hc,Nat.lt_succ_of_lt hc]
    ·rw [if_neg (fun h=>hc h.1),if_neg (fun h=>by omega)]
  ·rename_i hl
   refine ⟨?_,h2,h3⟩
   rw [h1]
   by_cases e:c = n
   ·subst e
    rw [if_neg (fun h=>by omega)]
    by_cases hon:S.on c = true
    ·have hla:(hangs S c).la c = S.la c:=h2 (by rw [hnn];exact hon)
     rw [hnn,hla,hnow] at hl
     rw [if_neg (fun h=>hl h.2)]
    ·have:S.on c = false:=by simpa using hon
     rw [this];split <;> rfl
   ·by_cases hc:c < n
    ·simp [hc,Nat.lt_succ_of_lt hc]
    ·rw [if_neg (fun h=>hc h.1),if_neg (fun h=>by omega)]
theorem tick_on (wd h seed:Int) (S:St) (hd:S.down = false):(tickS wd h seed S).on = (tocks S).on∧(tickS wd h seed S).la = (tocks S).la∧(tickS wd h seed S).now = S.now + 1:=by
 have hn:(tocks S).now = S.now + 1:=(hangs_now _ 6).1
 have ha:∀ s,(appS (drained (tocks S)) s).on = (tocks S).on∧(appS (drained (tocks S)) s).la = (tocks S).la∧(appS (drained (tocks S)) s).now = (tocks S).now:=fun s=>by
  unfold appS;split <;> exact ⟨rfl,rfl,rfl⟩
 unfold tickS
 rw [if_neg (by rw [hd];decide)]
 split
 ·unfold batchS
  have h1:=ha (recS (tocks S))
  obtain ⟨A,hA⟩:∃ A,appS (drained (tocks S)) (recS (tocks S)) = A:=⟨_,rfl⟩
  rw [hA] at h1 ⊢
  clear ha hA
  generalize tocks S = T at *
  split
  ·refine ⟨?_,?_,?_⟩
   ·show A.on = _;exact h1.1
   ·show A.la = _;exact h1.2.1
   ·show A.now = _;exact h1.2.2.trans hn
  ·refine ⟨?_,?_,?_⟩
   ·show A.on = _;exact h1.1
   ·show A.la = _;exact h1.2.1
   ·show A.now = _;exact h1.2.2.trans hn
 ·exact ⟨rfl,rfl,hn⟩
theorem tick_down (wd h seed:Int) (S:St) (hd:(tickS wd h seed S).down = false):S.down = false:=by
 cases e:S.down with
 | false=>rfl
 | true=>unfold tickS at hd;rw [if_pos e,e] at hd;exact hd
theorem ticks_down (wd h seed:Int) (S:St):∀ n,(ticksS wd h seed S n).down = false→∀ k,k≤n→(ticksS wd h seed S k).down = false
 | 0,hd,k,hk=>by
  obtain rfl:k = 0:=by omega
  exact hd
 | n + 1,hd,k,hk=>by
  by_cases e:k = n + 1
  ·subst e;exact hd
  ·exact ticks_down wd h seed S n (Ve.tick_down wd h seed _ hd) k (by omega)
theorem ticks_on {wd h seed:Int} {S:St} (hl:LaNow S) {n:Nat} (hd:(ticksS wd h seed S n).down = false):∀ k,k≤n→(ticksS wd h seed S k).now = S.now + k∧∀ c,c < 6→(ticksS wd h seed S k).on c = true→(ticksS wd h seed S k).la c = S.la c∧(k = 0∨(S.now:Int) + k≤S.la c + 5)
 | 0,_=>⟨rfl,fun _ _ _=>⟨rfl,.inl rfl⟩⟩
 | k + 1,hk=>by
  obtain ⟨h1,h2⟩:=ticks_on hl hd k (by omega)
  have hdk:=ticks_down wd h seed S n hd k (by omega)
  obtain ⟨e1,e2,e3⟩:=tick_on wd h seed (ticksS wd h seed S k) hdk
  refine ⟨e3.trans (by rw [h1];omega),fun c hc hon=>?_⟩
  have hon':(tickS wd h seed (ticksS wd h seed S k)).on c = true:=hon
  show (tickS wd h seed (ticksS wd h seed S k)).la c = S.la c∧_
  rw [e1] at hon'
  rw [e2]
  obtain ⟨f1,f2,_⟩:=hangs_on { ticksS wd h seed S k with now:=(ticksS wd h seed S k).now + 1 } 6 c
  have f1':(tocks (ticksS wd h seed S k)).on c = _:=f1
  have f2':=f2 hon'
  have f2'':(tocks (ticksS wd h seed S k)).la c = (ticksS wd h seed S k).la c:=f2'
  rw [f1'] at hon'
  split at hon'
  ·cases hon'
  ·rename_i hnl
   have hon2:(ticksS wd h seed S k).on c = true:=hon'
   obtain ⟨g1,g2⟩:=h2 c hc hon2
   refine ⟨f2''.trans g1,.inr ?_⟩
   have hlate:¬ Se.late ((ticksS wd h seed S k).on c) ((ticksS wd h seed S k).la c) (((ticksS wd h seed S k).now + 1:Nat):Int) = true:=fun e=>hnl ⟨hc,e⟩
   unfold Se.late at hlate
   rw [hon2,g1,h1] at hlate
   simp at hlate
   omega
def Off (S:St):Prop:=∀ c,c < 6→S.on c = false
def Bare (S:St):Prop:=∀ c,c < 6→NoLots S.L c
theorem off_six {wd h seed:Int} {S:St} (hl:LaNow S) {n:Nat} (hd:(ticksS wd h seed S n).down = false) {k:Nat} (hk:k≤n) (h6:6≤k):Off (ticksS wd h seed S k):=fun c hc=>by
 obtain ⟨_,h2⟩:=ticks_on hl hd k hk
 cases e:(ticksS wd h seed S k).on c with
 | false=>rfl
 | true =>
  obtain ⟨_,g⟩:=h2 c hc e
  have:=hl c hc
  omega
theorem J.ticks {S:St} (h:J S) (wd hh seed:Int):∀ k,J (ticksS wd hh seed S k)
 | 0=>h
 | k + 1=>(J.ticks h wd hh seed k).tick wd hh seed
theorem tocks_J {S:St} (h:J S):J (tocks S):=J.hangs (S:={ S with now:=S.now + 1 }) ⟨h.q,h.off,h.tn⟩ 6 (Nat.le_refl _)
theorem batch_bare {S:St} (h:J S) (wd hh seed:Int) (hd:(tickS wd hh seed S).down = false) (ho:Off (tickS wd hh seed S)) (hm:(S.now + 1) % 3 = 0):Bare (tickS wd hh seed S):=by
 have hdS:=Ve.tick_down wd hh seed S hd
 obtain ⟨e1,_,_⟩:=tick_on wd hh seed S hdS
 have hJ:=tocks_J h
 have e:tickS wd hh seed S = batchS wd hh seed (tocks S):=by unfold tickS;rw [if_neg (by rw [hdS];decide),if_pos hm]
 rw [e] at hd ho ⊢
 rw [e] at e1
 have hL:(appS (drained (tocks S)) (recS (tocks S))).L = (tocks S).L:=by unfold appS;split <;> rfl
 unfold batchS at *
 split at hd
 ·rename_i happ
  rw [if_pos happ] at ho e1 ⊢
  intro c hc
  have hoff:(tocks S).on c = false:=by rw [← e1];exact ho c hc
  exact round_no hJ wd hh seed hL hc hoff
 ·cases hd
theorem tick_bare {S:St} (h:J S) (wd hh seed:Int) (hd:(tickS wd hh seed S).down = false) (ho:Off (tickS wd hh seed S)) (hb:Bare S):Bare (tickS wd hh seed S):=by
 by_cases hm:(S.now + 1) % 3 = 0
 ·exact batch_bare h wd hh seed hd ho hm
 ·have hdS:=Ve.tick_down wd hh seed S hd
  have e:tickS wd hh seed S = tocks S:=by unfold tickS;rw [if_neg (by rw [hdS];decide),if_neg hm]
  rw [e]
  intro c hc
  have hL:(tocks S).L = S.L:=(hangs_now _ 6).2.2.2.1
  unfold Bare NoLots at *
  rw [hL];exact hb c hc
theorem bare_nine {wd h seed:Int} {S:St} (hj:J S) (hl:LaNow S) {n:Nat} (hd:(ticksS wd h seed S n).down = false):∀ k,9≤k→k≤n→Bare (ticksS wd h seed S k):=by
 have key:∀ j,6≤j→j + 1≤n→(ticksS wd h seed S j).now % 3 = 2→Bare (ticksS wd h seed S (j + 1)):=fun j h6 hn hm =>
  batch_bare (hj.ticks wd h seed j) wd h seed (ticks_down wd h seed S n hd (j + 1) hn) (off_six hl hd hn (by omega)) (by omega)
 have more:∀ m j,6≤j→j + m≤n→Bare (ticksS wd h seed S j)→Bare (ticksS wd h seed S (j + m)):=by
  intro m
  induction m with
  | zero=>intro j _ _ hb;exact hb
  | succ m ih =>
   intro j h6 hn hb
   exact tick_bare (hj.ticks wd h seed (j + m)) wd h seed (ticks_down wd h seed S n hd (j + m + 1) hn) (off_six hl hd hn (by omega)) (ih j h6 (by omega) hb)
 intro k h9 hk
 have hn:∀ j,j≤n→(ticksS wd h seed S j).now = S.now + j:=fun j hj=>(ticks_on hl hd j hj).1
 have:S.now % 3 = 0∨S.now % 3 = 1∨S.now % 3 = 2:=by omega
 rcases this with h3 | h3 | h3
 ·have:=more (k - 9) 9 (by omega) (by omega) (key 8 (by omega) (by omega) (by rw [hn 8 (by omega)];omega))
  rwa [show 9 + (k - 9) = k by omega] at this
 ·have:=more (k - 8) 8 (by omega) (by omega) (key 7 (by omega) (by omega) (by rw [hn 7 (by omega)];omega))
  rwa [show 8 + (k - 8) = k by omega] at this
 ·have:=more (k - 7) 7 (by omega) (by omega) (key 6 (by omega) (by omega) (by rw [hn 6 (by omega)];omega))
  rwa [show 7 + (k - 7) = k by omega] at this
end Ve
end Go.Proofs.YtidahfhingdlmaaGreatDoor
