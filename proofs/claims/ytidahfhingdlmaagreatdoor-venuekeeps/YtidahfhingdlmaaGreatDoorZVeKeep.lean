/- What is so of a venue behind steps, and behind sixteen ticks more; plain facts. -/
import Derived.Test.YtidahfhingdlmaaGreatDoorZVeSixteen
namespace Go.Proofs.YtidahfhingdlmaaGreatDoor
set_option maxRecDepth 100000
namespace Ve
theorem LaNow.hear {S:St} (h:LaNow S) (n:Nat) (f:ByteArray):LaNow (hearS S n f):=by
 have ht:∀ a,LaNow (taken S n a):=fun a c hc=>by
  have h1:=h c hc
  show upd S.la n (Se.tL (S.on n) (S.nx n) (S.la n) a S.now) c≤(S.now:Int)
  unfold upd Se.tL
  split
  ·rename_i e;subst e
   split
   ·split
    ·omega
    ·omega
   ·exact h1
  ·exact h1
 unfold hearS
 split
 ·split
  ·split
   ·exact ht (askOf f)
   ·split
    ·exact ht (askOf f)
    ·exact ht (askOf f)
  ·exact h
 ·exact h
theorem LaNow.hears {S:St} (h:LaNow S) (n:Nat) (b:ByteArray):∀ k,LaNow (hearsS S n b k)
 | 0=>h
 | k + 1=>(LaNow.hears h n b k).hear n _
theorem LaNow.feed {S:St} (h:LaNow S) (n:Int) (s:ByteArray):LaNow (feedS S n s):=by
 unfold feedS
 split
 ·exact h
 ·exact LaNow.hears (S:=fedS S n.toNat (S.lf n.toNat++s)) h _ _ _
theorem LaNow.cut {S:St} (h:LaNow S) (n:Int):LaNow (cutS S n):=by
 unfold cutS
 split
 ·exact h
 ·exact h
theorem LaNow.tick {S:St} (h:LaNow S) (wd hh seed:Int):LaNow (tickS wd hh seed S):=by
 cases hd:S.down with
 | true =>
  have e:tickS wd hh seed S = S:=by unfold tickS;rw [if_pos hd]
  rw [e];exact h
 | false =>
  obtain ⟨_,e2,e3⟩:=tick_on wd hh seed S hd
  intro c hc
  rw [e2,e3]
  have:=h c hc
  have h3:(tocks S).la c = S.la c∨(tocks S).la c = 0:=(hangs_on { S with now:=S.now + 1 } 6 c).2.2
  rcases h3 with h3 | h3 <;> rw [h3] <;> omega
structure W (S:St):Prop where
 j:J S
 l:LaNow S
theorem W.ticks {S:St} (h:W S) (wd hh seed:Int):∀ k,W (ticksS wd hh seed S k)
 | 0=>h
 | k + 1=>⟨(W.ticks h wd hh seed k).j.tick wd hh seed,(W.ticks h wd hh seed k).l.tick wd hh seed⟩
theorem W.step {S:St} (h:W S) (wd hh seed:Int) (x:Stp):W (stepS wd hh seed S x):=by
 unfold stepS
 split
 ·exact ⟨h.j.feed _ _,h.l.feed _ _⟩
 ·split
  ·exact ⟨h.j.cut _,h.l.cut _⟩
  ·exact h.ticks wd hh seed _
theorem W.walk {S:St} (h:W S) (wd hh seed:Int) (l:List Stp):∀ k,W (walkS wd hh seed S l k)
 | 0=>h
 | k + 1=>(W.walk h wd hh seed l k).step wd hh seed _
theorem W.init (ref cash stock:Int):W (Ve.init ref cash stock):=⟨J.init ref cash stock,fun _ _=>(show (0:Int)≤0 by decide)⟩
theorem W.silent {S:St} (h:W S) (wd hh seed:Int) (hd:(ticksS wd hh seed S 16).down = false) (ha:FAll (ticksS wd hh seed S 16).L (ticksS wd hh seed S 16).pf (ticksS wd hh seed S 16).n wd hh) :
  (∀ c,c < 6→(ticksS wd hh seed S 16).on c = false∧(ticksS wd hh seed S 16).Q c = [])∧(∀ i,i < 3→(ticksS wd hh seed S 16).L i = [])∧∀ j,Fu.IsHeld j→(ticksS wd hh seed S 16).pf j = 0:=by
 have hb:=bare_nine h.j h.l hd 16 (by decide) (Nat.le_refl _)
 have ho:=off_six h.l hd (Nat.le_refl 16) (by decide)
 have hL:∀ i,i < 3→(ticksS wd hh seed S 16).L i = []:=fun i hi=>by
  cases e:(ticksS wd hh seed S 16).L i with
  | nil=>rfl
  | cons x t =>
   have hx:x∈(ticksS wd hh seed S 16).L i:=by rw [e];exact List.mem_cons_self
   have hok:=(ha.ok.bk i hi).oks x hx
   have hw:0≤x.ow∧x.ow≤5:=by
    unfold Cv.ok Wi.withinB at hok
    simp at hok
    omega
   exact absurd (by omega) (hb x.ow.toNat (by omega) i hi x hx)
 refine ⟨fun c hc=>⟨ho c hc,((h.j.ticks wd hh seed 16).off c hc (ho c hc)).1⟩,hL,fun j hj=>?_⟩
 rw [ha.ok.held j hj]
 unfold Fu.asked
 simp only [hL 0 (by decide),hL 1 (by decide),hL 2 (by decide)]
 rfl
end Ve
end Go.Proofs.YtidahfhingdlmaaGreatDoor
