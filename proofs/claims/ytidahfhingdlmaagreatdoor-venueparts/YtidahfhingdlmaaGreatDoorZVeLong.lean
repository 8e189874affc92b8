/- longSteps: are steps few and short enough? by its contract. -/
import Derived.Test.YtidahfhingdlmaaGreatDoorZVeOpen
namespace Go.Proofs.YtidahfhingdlmaaGreatDoor
open Go.RowKit
set_option maxRecDepth 100000
section
variable {w W:World}
def Few (l:List Stp) (m most:Nat):Prop:=m≤most∧∀ i,i < m→(snth l i).asks.length≤10∧(snth l i).s.size≤200
set_option maxHeartbeats 2000000 in
theorem longSteps_any (a:Option Addr) (m cap most:Nat) (l:List Stp) (W:World) (hbw:Hid (Below w.heap.size w W)) (hst:Hid (StpsAt w a m l)) (hmost:most≤1000) :
  Calls Tryz.prog 9 #[.slice a m cap,.int .i64 most] W fun e w'=>w' = W∧(e = .returned (.bool true)∨e = .returned (.bool false)∧Few l m most):=by
 by_cases hmm:most < m
 ·have hi:(most:Int) < m:=by omega
  go_enter Tryz.func9,Tryz.ntmps9
  go_wp2
  go_ret
  exact ⟨rfl,.inl rfl⟩
 ·have hi:¬ (most:Int) < m:=by omega
  go_enter Tryz.func9,Tryz.ntmps9
  go_wp2_with fail
  go_loopw [5] (fun kv wr=>∃ k:Nat,k≤m∧kv = .int .i64 k∧wr = W∧∀ i,i < k→(snth l i).asks.length≤10∧(snth l i).s.size≤200) (fun kv _=>m - (intOf kv).toNat)
  case atStart=>exact ⟨0,by omega,rfl,rfl,fun i h=>by omega⟩
  case round =>
   obtain ⟨k,hk,rfl,hwr,hall⟩:=hrel
   subst wr
   have HALL:=hide hall
   clear hall
   by_cases hlt:k < m
   ·have hki:(k:Int) < m:=by omega
    obtain ⟨g,hg,hcs⟩:∃ g,a = some g∧_:=by
     rcases hst.out.2.1 with h0 | h1
     ·omega
     ·exact h1
    subst hg
    obtain ⟨aa,am,ac,d0,d1,d2,d3,d4,d5⟩:=(hcs k hlt).later hbw.out
    have hgl:(g.add (k * 5)).block < W.heap.size:=World.block_lt_of_cell? _ _ d0
    have hlm:(snth l k).asks.length = am:=d5.1
    have HKK:Hid (∀ i,i < k + 1→i < k∨i = k):=fun i hi=>by omega
    obtain ⟨x,hx⟩:∃ x,snth l k = x:=⟨_,rfl⟩
    have HX:=hide hx
    rw [hx] at d0 d1 d3 d4 hlm
    clear hcs d5 hx
    by_cases hA:(10:Int) < am
    ·go_wp2
     go_ret
     exact ⟨rfl,.inl rfl⟩
    ·by_cases hS:(200:Int) < x.s.size
     ·go_wp2
      go_ret
      exact ⟨rfl,.inl rfl⟩
     ·have HFin:Hid (∀ i,i < k + 1→(snth l i).asks.length≤10∧(snth l i).s.size≤200):=fun i hi=>by
       rcases HKK.out i hi with h1 | rfl
       ·exact HALL.out i h1
       ·rw [HX.out];omega
      go_wp2
      exact ⟨⟨k + 1,hlt,by go_num,trivial,HFin.out⟩,by simp [intOf];omega⟩
   ·have hki:¬ (k:Int) < m:=by omega
    obtain rfl:k = m:=by omega
    have HF:Hid (Few l k most):=⟨by omega,HALL.out⟩
    go_wp2
    go_ret
    exact ⟨rfl,.inr ⟨rfl,HF.out⟩⟩
end
end Go.Proofs.YtidahfhingdlmaaGreatDoor
