/- Two venues side by side: what the one does leaves the other one as it is. -/
import Derived.Test.YtidahfhingdlmaaGreatDoorU37
namespace Go.Proofs.YtidahfhingdlmaaGreatDoor
open Go.RowKit
set_option maxRecDepth 100000
structure Pair (w W:World) (B B':Vb) (X X':Vx) (wd h seed:Int) (S S':Ve.St):Prop where
 a:Ven w W B X wd h seed S
 b:Ven w W B' X' wd h seed S'
 ap:∀ k,vown B X k→¬ vown B' X' k
 fa:¬ vown B X B'.F
 fb:¬ vown B' X' B.F
section
variable {w W W' W0:World} {B B':Vb} {X X' X1:Vx} {wd h seed:Int} {S S' S1:Ve.St}
theorem Pair.symm (P:Pair w W B B' X X' wd h seed S S'):Pair w W B' B X' X wd h seed S' S:=⟨P.b,P.a,fun k h1 h2=>P.ap k h2 h1,P.fb,P.fa⟩
theorem Pair.later (P:Pair w W B B' X X' wd h seed S S') (hb:Below W.heap.size W W'):Pair w W' B B' X X' wd h seed S S':=⟨P.a.later hb,P.b.later hb,P.ap,P.fa,P.fb⟩
theorem Pair.left (P:Pair w W B B' X X' wd h seed S S') (H:Ven w W' B X1 wd h seed S1) (hs:VStep W W' B X X1):Pair w W' B B' X1 X' wd h seed S1 S':=by
 refine ⟨H,P.b.aside hs.turned P.fa (fun k hk h1=>P.ap k h1 hk) (fun k hk=>(P.a.own_lt hk).1),fun k hk h2=>?_,fun hk=>?_,P.fb⟩
 ·rcases hs.new k hk with h1 | h1
  ·exact P.ap k h1 h2
  ·exact absurd (P.b.own_lt h2).2 (by omega)
 ·rcases hs.new _ hk with h1 | h1
  ·exact P.fa h1
  ·exact absurd (lt_of_block P.b.fl.blk) (by omega)
theorem Pair.right (P:Pair w W B B' X X' wd h seed S S') (H:Ven w W' B' X1 wd h seed S1) (hs:VStep W W' B' X' X1):Pair w W' B B' X X1 wd h seed S S1:=(P.symm.left H hs).symm
theorem Pair.new (H:Ven w W B X wd h seed S) (hb:Below W.heap.size W W0) (H':Ven W0 W' B' X' wd h seed S'):Pair w W' B B' X X' wd h seed S S':=by
 have hz:=hb.size
 have H0:=H.later hb
 have H1:=H0.later H'.bl
 refine ⟨H1,Ven.rebase (H.bl.trans (hb.mono H.bl.size)) H',fun k h1 h2=>?_,fun h1=>?_,fun h2=>?_⟩
 ·have:=(H0.own_lt h1).2;have:=(H'.own_lt h2).1;omega
 ·have:=(H0.own_lt h1).2;have:=H'.fl.lo;omega
 ·have:=(H'.own_lt h2).1;have:=lt_of_block H0.fl.blk;omega
end
end Go.Proofs.YtidahfhingdlmaaGreatDoor
