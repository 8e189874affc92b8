/- The closed facts of ScriptReads' row. -/
import Derived.Test.YtjolccidheflpaaGreatDoorX05
namespace Go.Proofs.YtjolccidheflpaaGreatDoor
set_option maxHeartbeats 8000000
theorem ScriptReads.PW{a b:Bool}(ha:a=true)(hb:b=true):(a&&b)=true:=by rw[ha,hb];rfl
set_option maxRecDepth 100000 in
theorem ScriptReads.closed:joinedFacts Tryz.pinned.checked.prog 6 Tryz.f6 Rows.scriptReadsSpec Rows.scriptReadsRow=true:=by
 unfold joinedFacts
 repeat' (with_reducible apply ScriptReads.PW)
 all_goals (as_aux_lemma=>kernel_rfl)
end Go.Proofs.YtjolccidheflpaaGreatDoor
