/- Sessions: what taking a request answers, in numbers; what the errors' variables hold; the small functions of package session. -/
import Derived.Test.YtccjlddikinkiaaDoorAskError
import Derived.Deep.QuietTactic
import Derived.BigQuiet
namespace Go.Proofs.YtccjlddikinkiaaDoor
open Go.RowKit
set_option maxRecDepth 100000
structure Ask where
  k : Int
  c : Int
  sq : Int
  it : Int
  sd : Int
  pr : Int
  q : Int
  id : Int
def askA (a : Ask) : Array Value := #[.int .u8 a.k, .int .i64 a.c, .int .i64 a.sq, .int .i64 a.it, .int .i64 a.sd, .int .i64 a.pr, .int .i64 a.q, .int .i64 a.id]
def askV (a : Ask) : Value := .agg (askA a)
def sV (on : Bool) (nx la : Int) : Value := .agg #[.bool on, .int .i64 nx, .int .i64 la]
namespace Se
def ac (a : Ask) : Nat := Wi.code a.k a.c a.sq a.it a.sd a.pr a.q a.id
def aw (on : Bool) (nx : Int) : Int := if on = true then nx else 1
/-- the number of the error of a request in a session; 0: none -/
def tc (on : Bool) (nx : Int) (a : Ask) : Nat := if ac a = 0 then (if (a.k == 108) = on then 11 else if a.sq = aw on nx then 0 else 12) else ac a
def tO (on : Bool) (nx : Int) (a : Ask) : Bool := if tc on nx a = 0 then !(a.k == 113) else on
def tN (on : Bool) (nx : Int) (a : Ask) : Int := if tc on nx a = 0 then (if a.k = 113 then 0 else a.sq + 1) else nx
def tL (on : Bool) (nx la : Int) (a : Ask) (now : Int) : Int := if tc on nx a = 0 then (if a.k = 113 then 0 else now) else la
def late (on : Bool) (la now : Int) : Bool := on && decide (la + 5 < now)
theorem ac_lt (a : Ask) : ac a < 5 := by unfold ac Wi.code; (repeat' split) <;> decide
theorem tc_le (on : Bool) (nx : Int) (a : Ask) : tc on nx a ≤ 12 := by
  have := ac_lt a
  unfold tc
  repeat' split
  all_goals omega
theorem ac_zero {a : Ask} (h : ac a = 0) : 0 ≤ a.sq ∧ a.sq ≤ 1073741824 := by
  unfold ac Wi.code at h
  split at h
  · split at h
    · rename_i hb
      simp [Wi.boundB, Wi.withinB] at hb
      omega
    · cases h
  · cases h
end Se
/-- an error by its number; 0: none -/
def errC (T : Nat → Value) : Nat → Value
  | 0 => .nilIface
  | c + 1 => .iface 85 (T c)
structure SEr (w : World) (T : Nat → Value) : Prop where
  st : w.cell? ⟨0, 0, none⟩ = some (.iface 85 (T 10))
  od : w.cell? ⟨1, 0, none⟩ = some (.iface 85 (T 11))
  bd : w.cell? ⟨3, 0, none⟩ = some (.iface 85 (T 1))
  sh : w.cell? ⟨4, 0, none⟩ = some (.iface 85 (T 2))
  kd : w.cell? ⟨5, 0, none⟩ = some (.iface 85 (T 3))
section
variable {w w' : World} {T : Nat → Value}
theorem s_cell_later {w w' : World} {b o : Nat} {v : Value} (hb : Below w.heap.size w w') (h : w.cell? ⟨b, o, none⟩ = some v) : w'.cell? ⟨b, o, none⟩ = some v := by
  rw [hb.cell (p := ⟨b, o, none⟩) (World.block_lt_of_cell? w _ h)]; exact h
theorem SEr.later (h : SEr w T) (hb : Below w.heap.size w w') : SEr w' T := ⟨s_cell_later hb h.st, s_cell_later hb h.od, s_cell_later hb h.bd, s_cell_later hb h.sh, s_cell_later hb h.kd⟩
theorem SEr.size (h : SEr w T) : 5 < w.heap.size := World.block_lt_of_cell? w _ h.kd
set_option maxHeartbeats 1000000 in
theorem wcheck_any (a : Ask) (w : World) (he : SEr w T) : Calls Tryd.prog 14 #[askV a] w fun e w' => e = .returned (errC T (Se.ac a)) ∧ Below w.heap.size w w' := by
  obtain ⟨ak, ac, asq, ait, asd, apr, aq, aid⟩ := a
  have hz := he.size
  show Calls Tryd.prog 14 #[.agg #[.int .u8 ak, .int .i64 ac, .int .i64 asq, .int .i64 ait, .int .i64 asd, .int .i64 apr, .int .i64 aq, .int .i64 aid]] w fun e w' => e = .returned (errC T (Wi.code ak ac asq ait asd apr aq aid)) ∧ _
  unfold Wi.code
  cases hk : Wi.kindB ak with
  | false => exact check_kind ak ac asq ait asd apr aq aid _ w (by omega) he.kd hk
  | true =>
    cases hb : Wi.boundB ak ac asq ait asd apr aq aid with
    | false => exact check_bound ak ac asq ait asd apr aq aid _ w (by omega) he.bd hk hb
    | true =>
      cases hs : Wi.shapeB ak ait asd apr aq aid with
      | false => exact check_shape ak ac asq ait asd apr aq aid _ w (by omega) he.sh hk hb hs
      | true => exact check_fine ak ac asq ait asd apr aq aid w hk hb hs
set_option maxHeartbeats 1000000 in
theorem awaited_any (on : Bool) (nx la : Int) (w : World) : Calls Tryd.prog 15 #[sV on nx la] w fun e w' => e = .returned (.int .i64 (Se.aw on nx)) ∧ Below w.heap.size w w' := by
  unfold sV Se.aw
  cases on
  all_goals
    go_enter Tryd.func15, Tryd.ntmps15
    go_wp2
    go_ret
    exact ⟨rfl, (Below.refl _ _).alloc (Nat.le_refl _) _⟩
set_option maxHeartbeats 1000000 in
theorem late_any (on : Bool) (nx la now : Int) (w : World) (hl : 0 ≤ la ∧ la ≤ 1099511627776) : Calls Tryd.prog 6 #[sV on nx la, .int .i64 now] w fun e w' => e = .returned (.bool (Se.late on la now)) ∧ Below w.heap.size w w' := by
  unfold sV Se.late
  have h1 : IntKind.i64.wrap (la + 5) = la + 5 := IntWalk.i64_in _ (by omega)
  cases on
  all_goals
    go_enter Tryd.func6, Tryd.ntmps6
    go_wp2
    all_goals
      go_ret
      refine ⟨ret_bool ?_, (Below.refl _ _).alloc (Nat.le_refl _) _⟩
      simp
set_option maxHeartbeats 1000000 in
theorem isLate_any (on : Bool) (nx la now : Int) (w : World) (hl : 0 ≤ la ∧ la ≤ 1099511627776) (hn : 0 ≤ now ∧ now ≤ 1099511627776) : Calls Tryd.prog 7 #[sV on nx la, .int .i64 now] w fun e w' => e = .returned (.bool (Se.late on la now)) ∧ Below w.heap.size w w' := by
  unfold sV Se.late
  have h1 : IntKind.i64.wrap (now - la) = now - la := IntWalk.i64_in _ (by omega)
  have h2 : decide (la + 5 < now) = decide (5 < now - la) := by
    by_cases h : la + 5 < now
    · rw [decide_eq_true h, decide_eq_true (by omega)]
    · rw [decide_eq_false h, decide_eq_false (by omega)]
  rw [h2]
  clear h2
  cases on
  all_goals
    go_enter Tryd.func7, Tryd.ntmps7
    go_wp2
    all_goals
      go_ret
      refine ⟨ret_bool ?_, (Below.refl _ _).alloc (Nat.le_refl _) _⟩
      simp
end
end Go.Proofs.YtccjlddikinkiaaDoor
