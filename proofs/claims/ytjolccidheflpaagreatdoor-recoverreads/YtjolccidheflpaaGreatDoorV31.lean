/- Sessions: what taking a request answers, in numbers; what the errors' variables hold; the small functions of package session. -/
import Derived.Test.YtjolccidheflpaaGreatDoorV11
import Derived.Test.YtjolccidheflpaaGreatDoorV03
import Derived.Deep.QuietTactic
import Derived.BigQuiet
namespace Go.Proofs.YtjolccidheflpaaGreatDoor
set_option maxHeartbeats 8000000
open Go.RowKit
set_option maxRecDepth 100000
def NU (on:Bool) (bN la:Int):Value:=.agg #[.bool on,.int .i64 bN,.int .i64 la]
namespace jm
def ac (a:Ask):Nat:=ah.code a.k a.c a.sq a.it a.sd a.pr a.q a.id
def aw (on:Bool) (bN:Int):Int:=if on=true then bN else 1
def tc (on:Bool) (bN:Int) (a:Ask):Nat:=if ac a=0 then (if (a.k==108)=on then 11 else if a.sq=aw on bN then 0 else 12) else ac a
def Qp (on:Bool) (bN:Int) (a:Ask):Bool:=if tc on bN a=0 then !(a.k==113) else on
def aim (on:Bool) (bN:Int) (a:Ask):Int:=if tc on bN a=0 then (if a.k=113 then 0 else a.sq+1) else bN
def ain (on:Bool) (bN la:Int) (a:Ask) (now:Int):Int:=if tc on bN a=0 then (if a.k=113 then 0 else now) else la
def late (on:Bool) (la now:Int):Bool:=on&&decide (la+5<now)
end jm
structure WZ (w:World) (T:Nat->Value):Prop where
 st:w.cell? ⟨10,0,none⟩=some (.iface 412 (T 10))
 aoF:w.cell? ⟨11,0,none⟩=some (.iface 412 (T 11))
 bd:w.cell? ⟨1,0,none⟩=some (.iface 412 (T 1))
 sh:w.cell? ⟨3,0,none⟩=some (.iface 412 (T 2))
 kd:w.cell? ⟨4,0,none⟩=some (.iface 412 (T 3))
section
variable {w w':World} {T:Nat->Value}
theorem WZ.size (h:WZ w T):4<w.heap.size:=bCq w _ h.kd
theorem aio (on:Bool) (bN la now:Int) (w:World) (hl:0<=la∧la<=1099511627776):Calls Tryz.prog 131 #[NU on bN la,.int .i64 now] w fun e w'=>e=.returned (.bool (jm.late on la now))∧Below w.heap.size w w':=by
 unfold NU jm.late;have h1:IntKind.i64.wrap (la+5)=la+5:=IntWalk.i64_in _ (by omega);cases on
 all_goals
  go_enter Tryz.func131,Tryz.ntmps131;go_wp2
  all_goals
   go_ret;refine⟨gB ?_,(bRq _ _).alloc (lRq _) _⟩;simp
end
end Go.Proofs.YtjolccidheflpaaGreatDoor
