/- A band by numbers alone: what is well, what is within, what comes next. -/
import Derived.Test.YtomiebjfpfddhaaDoorClFacts
namespace Go.Proofs.YtomiebjfpfddhaaDoor
namespace Bd
def bOk (r l : Int) : Bool := Wi.withinB r 1 1000 && Wi.withinB l 0 1000
def rOk (w h : Int) : Bool := Wi.withinB w 0 100 && Wi.withinB h 1 1000
def vOk (p v : Int) : Bool := !decide (v < 0) && (!decide (0 < v) || Wi.withinB p 1 1000)
def inB (w r p : Int) : Bool := decide (Cv.size (p - r) * 100 ≤ r * w)
/-- the next band's reference, what is left of its halt, and whether it is open -/
def nR (r l w p v : Int) : Int := if 0 < l then (if l = 1 ∧ 0 < v then p else r) else if 0 < v ∧ inB w r p = true then p else r
def nL (r l w h p v : Int) : Int := if 0 < l then l - 1 else if 0 < v ∧ inB w r p = false then h else l
def nO (r l w p v : Int) : Bool := !decide (0 < l) && (!decide (0 < v) || inB w r p)
end Bd
theorem prod_bounds {r w : Int} (h1 : 1 ≤ r) (h2 : r ≤ 1000) (h3 : 0 ≤ w) (h4 : w ≤ 100) : 0 ≤ r * w ∧ r * w ≤ 100000 := by
  refine ⟨Int.mul_nonneg (by omega) h3, ?_⟩
  have a := Int.mul_le_mul_of_nonneg_right h2 h3
  omega
end Go.Proofs.YtomiebjfpfddhaaDoor
