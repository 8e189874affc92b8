/- The closed facts of ScriptAgain' row. -/
import Derived.Test.YtjolccidheflpaaGreatDoorX05
namespace Go.Proofs.YtjolccidheflpaaGreatDoor
set_option maxHeartbeats 8000000
theorem ScriptAgain.PW{a b:Bool}(ha:a=true)(hb:b=true):(a&&b)=true:=by rw[ha,hb];rfl
set_option maxRecDepth 100000 in
theorem ScriptAgain.closed:joinedFacts Tryz.pinned.checked.prog 7 Tryz.f7 Rows.scriptAgainSpec Rows.scriptAgainRow=true:=by
 unfold joinedFacts
 repeat' (with_reducible apply ScriptAgain.PW)
 all_goals (as_aux_lemma=>kernel_rfl)
end Go.Proofs.YtjolccidheflpaaGreatDoor
