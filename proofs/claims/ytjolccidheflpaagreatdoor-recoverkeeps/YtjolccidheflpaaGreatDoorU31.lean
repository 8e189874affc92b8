/- Sessions: what taking a request answers, in numbers; what the errors' variables hold; the small functions of package session. -/
import Derived.Test.YtjolccidheflpaaGreatDoorU11
import Derived.Test.YtjolccidheflpaaGreatDoorU03
import Derived.Deep.QuietTactic
import Derived.BigQuiet
namespace Go.Proofs.YtjolccidheflpaaGreatDoor
set_option maxHeartbeats 8000000
open Go.RowKit
set_option maxRecDepth 100000
def kS (on:Bool) (aD la:Int):Value:=.agg #[.bool on,.int .i64 aD,.int .i64 la]
namespace bz
def ac (a:Ask):Nat:=ah.code a.k a.c a.sq a.it a.sd a.pr a.q a.id
def aw (on:Bool) (aD:Int):Int:=if on=true then aD else 1
def tc (on:Bool) (aD:Int) (a:Ask):Nat:=if ac a=0 then (if (a.k==108)=on then 11 else if a.sq=aw on aD then 0 else 12) else ac a
def ja (on:Bool) (aD:Int) (a:Ask):Bool:=if tc on aD a=0 then !(a.k==113) else on
def jP (on:Bool) (aD:Int) (a:Ask):Int:=if tc on aD a=0 then (if a.k=113 then 0 else a.sq+1) else aD
def gN (on:Bool) (aD la:Int) (a:Ask) (now:Int):Int:=if tc on aD a=0 then (if a.k=113 then 0 else now) else la
def late (on:Bool) (la now:Int):Bool:=on&&decide (la+5<now)
theorem aik (a:Ask):ac a<5:=by unfold ac ah.code;(repeat' split) <;> decide
theorem ail (on:Bool) (aD:Int) (a:Ask):tc on aD a<=12:=by
 have:=aik a
 unfold tc
 repeat' split
 all_goals omega
theorem aim {a:Ask} (h:ac a=0):0<=a.sq∧a.sq<=1073741824:=by
 unfold ac ah.code at h;split at h
 ·split at h
  ·rename_i hb
   simp[ah.ju,ah.aB]at hb;omega
  ·cases h
 ·cases h
end bz
def uJ (T:Nat->Value):Nat->Value
 | 0=>.nilIface
 | c+1=>.iface 412 (T c)
structure sM (w:World) (T:Nat->Value):Prop where
 st:w.cell? ⟨10,0,none⟩=some (.iface 412 (T 10))
 G5:w.cell? ⟨11,0,none⟩=some (.iface 412 (T 11))
 bd:w.cell? ⟨1,0,none⟩=some (.iface 412 (T 1))
 sh:w.cell? ⟨3,0,none⟩=some (.iface 412 (T 2))
 kd:w.cell? ⟨4,0,none⟩=some (.iface 412 (T 3))
section
variable {w w':World} {T:Nat->Value}
theorem Cn {w w':World} {b o:Nat} {v:Value} (hb:Below w.heap.size w w') (h:w.cell? ⟨b,o,none⟩=some v):w'.cell? ⟨b,o,none⟩=some v:=by
 rw[hb.cell (p:=⟨b,o,none⟩) (bCq w _ h)];exact h
theorem sM.later (h:sM w T) (hb:Below w.heap.size w w'):sM w' T:=⟨Cn hb h.st,Cn hb h.G5,Cn hb h.bd,Cn hb h.sh,Cn hb h.kd⟩
theorem sM.size (h:sM w T):4<w.heap.size:=bCq w _ h.kd
theorem ain (a:Ask) (w:World) (he:sM w T):Calls Tryz.prog 151 #[bM a] w fun e w'=>e=.returned (uJ T (bz.ac a))∧Below w.heap.size w w':=by
 obtain⟨aU,ac,aZ,bB,asd,aK,aq,aH⟩:=a;have hz:=he.size;show Calls Tryz.prog 151 #[.agg #[.int .u8 aU,.int .i64 ac,.int .i64 aZ,.int .i64 bB,.int .i64 asd,.int .i64 aK,.int .i64 aq,.int .i64 aH]] w fun e w'=>e=.returned (uJ T (ah.code aU ac aZ bB asd aK aq aH))∧_;unfold ah.code;cases hk:ah.kX aU with
 | false=>exact Jg aU ac aZ bB asd aK aq aH _ w (by omega) he.kd hk
 | true =>
  cases hb:ah.ju aU ac aZ bB asd aK aq aH with
  | false=>exact Jh aU ac aZ bB asd aK aq aH _ w (by omega) he.bd hk hb
  | true =>
   cases hs:ah.lJ aU bB asd aK aq aH with
   | false=>exact Ji aU ac aZ bB asd aK aq aH _ w (by omega) he.sh hk hb hs
   | true=>exact DI aU ac aZ bB asd aK aq aH w hk hb hs
theorem aio (on:Bool) (aD la:Int) (w:World):Calls Tryz.prog 270 #[kS on aD la] w fun e w'=>e=.returned (.int .i64 (bz.aw on aD))∧Below w.heap.size w w':=by
 unfold kS bz.aw;cases on
 all_goals
  go_enter Tryz.func270,Tryz.ntmps270;go_wp2;go_ret;exact⟨rfl,(bRq _ _).alloc (lRq _) _⟩
theorem aip (on:Bool) (aD la now:Int) (w:World) (hl:0<=la∧la<=1099511627776):Calls Tryz.prog 131 #[kS on aD la,.int .i64 now] w fun e w'=>e=.returned (.bool (bz.late on la now))∧Below w.heap.size w w':=by
 unfold kS bz.late;have h1:IntKind.i64.wrap (la+5)=la+5:=IntWalk.i64_in _ (by omega);cases on
 all_goals
  go_enter Tryz.func131,Tryz.ntmps131;go_wp2
  all_goals
   go_ret;refine⟨gG ?_,(bRq _ _).alloc (lRq _) _⟩;simp
end
end Go.Proofs.YtjolccidheflpaaGreatDoor
