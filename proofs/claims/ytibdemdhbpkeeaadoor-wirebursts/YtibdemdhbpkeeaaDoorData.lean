/- What the listed package variables give the walks, and how a request is opened and shut as data. -/
import Derived.Test.YtibdemdhbpkeeaaDoorCards
import Derived.Test.YtibdemdhbpkeeaaDoorTie
import Derived.WalkKit
import Derived.ProofKit
import Derived.OpenShut
import Derived.LaidMore
import Derived.Stop.LaidErr
import Derived.Stop.LaidTwo
import Derived.Stop.Joined
import Derived.Lib.SmallJoins
namespace Go.Proofs.YtibdemdhbpkeeaaDoor
open Go.ChangeShapes Go.WideShapes Go.ChangeAt Go.RowKit

theorem own : ownKnob Tryd.prog.godebug = none := by kernel_rfl
theorem laidOut : laidOutB Tryd.prog = true := by kernel_rfl
theorem errStar : "*" ++ "errors.errorString" = "*errors.errorString" := by decide
theorem errRow (u : TypeId) (h : Tryd.prog.typeName? 3 u = some "*errors.errorString") : u = 104 :=
  typeName_ptr_named (nm := "errors.errorString") (by rw [errStar]; kernel_rfl) (by kernel_rfl) (by decide) u (by rw [errStar]; exact h)
theorem cells69 : Tryd.prog.cellsOf 123 = 1 := by kernel_rfl
theorem cells9 : Tryd.prog.cellsOf 9 = 1 := by kernel_rfl
theorem cells36 : Tryd.prog.cellsOf 23 = 8 := by kernel_rfl

theorem one_sentinel {n : String} {text : List UInt8} {r : List (String × DataW Unit)} {W : World} {g : Nat}
    (h : laidMet Tryd.prog ((n, .iface "*errors.errorString" (.ptr (.agg [.lit (.string text)]))) :: r) W)
    (hg : Tryd.prog.globalNamed n = some g) (ht : (Tryd.prog.globals[g]?).map (·.type) = some 27) :
    ∃ (a : Addr) (s : ByteArray), W.cell? ⟨g, 0, none⟩ = some (.iface 104 (.pointer (some a))) ∧ W.cell? a = some (.string s) ∧ s.data.toList = text := by
  obtain ⟨a, s, hv, hc, hs, _⟩ := laid_sentinel h hg ht Tryd.underlying27 errRow Tryd.underlying104 Tryd.underlying123 rfl rfl Tryd.underlying9 cells69 cells9
  exact ⟨a, s, by simpa using World.var?_cell hg hv 0, hc, hs⟩

/-- a request as a value, and as data -/
def askV (k c sq it sd pr q id : Int) : Value := .agg #[.int .u8 k, .int .i64 c, .int .i64 sq, .int .i64 it, .int .i64 sd, .int .i64 pr, .int .i64 q, .int .i64 id]
def askD (H : Type) (k c sq it sd pr q id : Int) : DataW H := .agg [.lit (.int .u8 k), .lit (.int .i64 c), .lit (.int .i64 sq), .lit (.int .i64 it), .lit (.int .i64 sd), .lit (.int .i64 pr), .lit (.int .i64 q), .lit (.int .i64 id)]

section
variable {H : Type} {enc : TypeId × Value → H} {w : World} {base : Nat} {spare : Nat → Bool} {held : Bool}

theorem array8 {α : Type} {cs : Array α} (h : cs.size = 8) : ∃ c0 c1 c2 c3 c4 c5 c6 c7, cs = #[c0, c1, c2, c3, c4, c5, c6, c7] := by
  obtain ⟨l⟩ := cs
  match l, h with
  | [c0, c1, c2, c3, c4, c5, c6, c7], _ => exact ⟨c0, c1, c2, c3, c4, c5, c6, c7, rfl⟩

theorem cells5 : Tryd.prog.cellsOf 5 = 1 := by kernel_rfl
theorem cells3 : Tryd.prog.cellsOf 3 = 1 := by kernel_rfl

set_option maxRecDepth 100000 in
theorem open_ask {r : Reach} {b0 : Nat} {v : Value} {d : DataW H} {p : List MemPlace} (hv : Value.okWide Tryd.prog w r b0 23 v) (h : DataW.Trod enc Tryd.prog w base spare held 23 v d p) :
    ∃ k c sq it sd pr q id : Int, v = askV k c sq it sd pr q id ∧ d = askD H k c sq it sd pr q id ∧ p = [] ∧
      (Lit.int .u8 k).wf = true ∧ (Lit.int .i64 c).wf = true ∧ (Lit.int .i64 sq).wf = true ∧ (Lit.int .i64 it).wf = true ∧ (Lit.int .i64 sd).wf = true ∧ (Lit.int .i64 pr).wf = true ∧ (Lit.int .i64 q).wf = true ∧ (Lit.int .i64 id).wf = true := by
  obtain ⟨cs, rfl, hsz⟩ := okWide_struct Tryd.underlying23 hv
  obtain ⟨c0, c1, c2, c3, c4, c5, c6, c7, rfl⟩ := array8 (hsz.trans cells36)
  obtain ⟨fuel, hf⟩ := h
  obtain ⟨xs, n, _, hx, _, hlen, hfs⟩ := DataW.trod_struct Tryd.underlying23 hf
  match xs, hlen with
  | [y0, y1, y2, y3, y4, y5, y6, y7], _ =>
    have h0 := hfs 0 _ rfl
    have h1 := hfs 1 _ rfl
    have h2 := hfs 2 _ rfl
    have h3 := hfs 3 _ rfl
    have h4 := hfs 4 _ rfl
    have h5 := hfs 5 _ rfl
    have h6 := hfs 6 _ rfl
    have h7 := hfs 7 _ rfl
    simp [Value.cells, cells5, cells3] at h0 h1 h2 h3 h4 h5 h6 h7
    obtain ⟨k, e0, f0, g0⟩ := DataW.trod_int Tryd.underlying5 h0
    obtain ⟨c, e1, f1, g1⟩ := DataW.trod_int Tryd.underlying3 h1
    obtain ⟨sq, e2, f2, g2⟩ := DataW.trod_int Tryd.underlying3 h2
    obtain ⟨it, e3, f3, g3⟩ := DataW.trod_int Tryd.underlying3 h3
    obtain ⟨sd, e4, f4, g4⟩ := DataW.trod_int Tryd.underlying3 h4
    obtain ⟨pr, e5, f5, g5⟩ := DataW.trod_int Tryd.underlying3 h5
    obtain ⟨q, e6, f6, g6⟩ := DataW.trod_int Tryd.underlying3 h6
    obtain ⟨id, e7, f7, g7⟩ := DataW.trod_int Tryd.underlying3 h7
    simp at e0 e1 e2 e3 e4 e5 e6 e7
    subst e0 e1 e2 e3 e4 e5 e6 e7 f0 f1 f2 f3 f4 f5 f6 f7
    simp only [Prod.mk.injEq] at hx
    exact ⟨k, c, sq, it, sd, pr, q, id, rfl, hx.1, hx.2, g0, g1, g2, g3, g4, g5, g6, g7⟩
end

/-- an argument of requests reads behind the call as it did -/
theorem ask_again {H : Type} {enc : TypeId × Value → H} {W W' : World} {v : Value} {d : DataW H} (h : DataW.Trod enc Tryd.prog W 0 (fun _ => true) true 23 v d []) (hb : Below W.heap.size W W') :
    DataW.Trod enc Tryd.prog W' 0 (fun b => decide (b < W.heap.size)) true 23 v d [] :=
  Below.trod laidOut (by kernel_rfl) (of_decide_eq_true (by kernel_rfl)) h hb (fun x hx => by cases hx)

end Go.Proofs.YtibdemdhbpkeeaaDoor
