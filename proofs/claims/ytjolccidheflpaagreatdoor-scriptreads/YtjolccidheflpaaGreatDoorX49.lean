/- Two players side by side; what a play keeps of its history; numbers that came in, as a row of one's own. -/
import Derived.Test.YtjolccidheflpaaGreatDoorX48
namespace Go.Proofs.YtjolccidheflpaaGreatDoor
open Go.Proofs.Tryz
set_option maxHeartbeats 8000000
set_option maxRecDepth 100000
open Go.RowKit
namespace Pl
variable {wd h seed:Int} {P:St} {S0:Ve.St} {H:List Ve.dU}
end Pl
def Ah(W:World)(a:Option Addr)(m cap:Nat)(l:List Int):Prop :=
 l.length=m/\(∀x∈l,eB x)/\((a=none/\m=0/\cap=0)\/∃g,a=some g/\∀i x,l[i]?=some x->W.cell? (g.add i)=some (Z x))
theorem Ah.later{W W':World}{a:Option Addr}{m cap:Nat}{l:List Int}(h:Ah W a m cap l)(hb:U W W'):Ah W' a m cap l :=
 ⟨h.1,h.2.1,h.2.2.imp id fun ⟨g,e,hc⟩=>⟨g,e,fun i x hx=>by rw[hb.cell (bCq _ _ (hc i x hx))];exact hc i x hx⟩⟩
section
variable {w W W' W0:World} {ad:Nat->Addr} {p p':Nat} {B B':bO} {X X' X1:bQ} {wd h seed:Int} {P P' P1:Pl.St}
theorem tW(W:World)(H:Hid (W.heap[p]?=some (.cells (qR B P) 148 (0,0)))):Calls prog 31 #[Rw p] W fun e w'=>e=.returned (Rw B.V)/\w'=W:=by have c0:=ag H 0 rfl;go_enter func31,ntmps31;go_wp2;go_ret;exact⟨rfl,rfl⟩
end
end Go.Proofs.YtjolccidheflpaaGreatDoor
