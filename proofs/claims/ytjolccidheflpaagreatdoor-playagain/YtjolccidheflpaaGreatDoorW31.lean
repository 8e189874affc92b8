/- Sessions: what taking a request answers, in numbers; what the errors' variables hold; the small functions of package session. -/
import Derived.Test.YtjolccidheflpaaGreatDoorW11
import Derived.Test.YtjolccidheflpaaGreatDoorW03
import Derived.Deep.QuietTactic
import Derived.BigQuiet
namespace Go.Proofs.YtjolccidheflpaaGreatDoor
set_option maxHeartbeats 8000000
set_option maxRecDepth 100000
open Go.RowKit
def lx (on:Bool) (ar la:Int):Value:=.agg #[.bool on,Qa ar,Qa la]
namespace bg
def ac (a:Ask):Nat:=ah.code a.k a.c a.sq a.it a.sd a.pr a.q a.id
def aw (on:Bool) (ar:Int):Int:=if on=true then ar else 1
def tc (on:Bool) (ar:Int) (a:Ask):Nat:=if ac a=0 then (if (a.k==108)=on then 11 else if a.sq=aw on ar then 0 else 12) else ac a
def iL (on:Bool) (ar:Int) (a:Ask):Bool:=if tc on ar a=0 then !(a.k==113) else on
def jl (on:Bool) (ar:Int) (a:Ask):Int:=if tc on ar a=0 then (if a.k=113 then 0 else a.sq+1) else ar
def gC (on:Bool) (ar la:Int) (a:Ask) (now:Int):Int:=if tc on ar a=0 then (if a.k=113 then 0 else now) else la
def late (on:Bool) (la now:Int):Bool:=on&&decide (la+5<now)
theorem ai7 (a:Ask):ac a<5:=by unfold ac ah.code;(repeat' split) <;> decide
theorem ai8 (on:Bool) (ar:Int) (a:Ask):tc on ar a<=12:=by
 have:=ai7 a
 unfold tc
 repeat' split
 all_goals omega
theorem ai9 {a:Ask} (h:ac a=0):0<=a.sq/\a.sq<=1073741824:=by
 unfold ac ah.code at h;split at h
 .split at h
  .rename_i hb
   simp[ah.ku,ah.aG]at hb;omega
  .cases h
 .cases h
end bg
def vd (T:Nat->Value):Nat->Value
 | 0=>.nilIface
 | c+1=>.iface 412 (T c)
structure s5 (w:World) (T:Nat->Value):Prop where
 st:w.cell? (Qb 10 0)=some (.iface 412 (T 10))
 Hz:w.cell? (Qb 11 0)=some (.iface 412 (T 11))
 bd:w.cell? (Qb 1 0)=some (.iface 412 (T 1))
 sh:w.cell? (Qb 3 0)=some (.iface 412 (T 2))
 kd:w.cell? (Qb 4 0)=some (.iface 412 (T 3))
section
variable {w w':World} {T:Nat->Value}
theorem CR {w w':World} {b o:Nat} {v:Value} (hb:Qd w w') (h:w.cell? (Qb b o)=some v):w'.cell? (Qb b o)=some v:=by
 rw[hb.cell (p:=(Qb b o)) (bCq w _ h)];exact h
theorem s5.later (h:s5 w T) (hb:Qd w w'):s5 w' T:=⟨CR hb h.st,CR hb h.Hz,CR hb h.bd,CR hb h.sh,CR hb h.kd⟩
theorem s5.size (h:s5 w T):4<w.heap.size:=bCq w _ h.kd
theorem aja (a:Ask) (w:World) (he:s5 w T):Calls Tryz.prog 151 #[bu a] w fun e w'=>e=.returned (vd T (bg.ac a))/\Qd w w':=by
 obtain⟨aO,ac,aV,bl,asd,aK,aq,aF⟩:=a;have hz:=he.size;show Calls Tryz.prog 151 #[.agg #[.int .u8 aO,Qa ac,Qa aV,Qa bl,Qa asd,Qa aK,Qa aq,Qa aF]] w fun e w'=>e=.returned (vd T (ah.code aO ac aV bl asd aK aq aF))/\_;unfold ah.code;cases hk:ah.mg aO with
 | false=>exact Jf aO ac aV bl asd aK aq aF _ w (by omega) he.kd hk
 | true =>
  cases hb:ah.ku aO ac aV bl asd aK aq aF with
  | false=>exact Jg aO ac aV bl asd aK aq aF _ w (by omega) he.bd hk hb
  | true =>
   cases hs:ah.m_ aO bl asd aK aq aF with
   | false=>exact Jh aO ac aV bl asd aK aq aF _ w (by omega) he.sh hk hb hs
   | true=>exact DV aO ac aV bl asd aK aq aF w hk hb hs
theorem ajb (on:Bool) (ar la:Int) (w:World):Calls Tryz.prog 270 #[lx on ar la] w fun e w'=>e=.returned (Qa (bg.aw on ar))/\Qd w w':=by
 unfold lx bg.aw;cases on
 all_goals
  go_enter Tryz.func270,Tryz.ntmps270;go_wp2;go_ret;exact⟨rfl,(bRq _ _).alloc (lRq _) _⟩
theorem ajc (on:Bool) (ar la now:Int) (w:World) (hl:0<=la/\la<=1099511627776):Calls Tryz.prog 131 #[lx on ar la,Qa now] w fun e w'=>e=.returned (.bool (bg.late on la now))/\Qd w w':=by
 unfold lx bg.late;have h1:IntKind.i64.wrap (la+5)=la+5:=IntWalk.i64_in _ (by omega);cases on
 all_goals
  go_enter Tryz.func131,Tryz.ntmps131;go_wp2
  all_goals
   go_ret;refine⟨iy ?_,(bRq _ _).alloc (lRq _) _⟩;simp
end
end Go.Proofs.YtjolccidheflpaaGreatDoor
