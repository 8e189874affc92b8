/- How an array of five numbers that came in is opened; all of BatchActs. -/
import Derived.Test.YtdggddjgipgllaaGreatDoorG15
import Derived.Test.YtdggddjgipgllaaGreatDoorG18
import Derived.Test.YtdggddjgipgllaaGreatDoorG35
namespace Go.Proofs.YtdggddjgipgllaaGreatDoor
open Go.ChangeShapes Go.WideShapes Go.ChangeAt Go.RowKit

theorem cells74 : Tryz.prog.cellsOf 74 = 5 := by kernel_rfl
theorem array5 {xs : Array Value} (h : xs.size = 5) : ∃ c0 c1 c2 c3 c4, xs = #[c0, c1, c2, c3, c4] := by
 obtain ⟨l⟩ := xs
 match l, h with
 | [c0, c1, c2, c3, c4], _ => exact ⟨c0, c1, c2, c3, c4, rfl⟩
section
variable {H : Type} {enc : TypeId × Value → H} {w : World} {base : Nat} {spare : Nat → Bool} {held : Bool}
set_option maxRecDepth 100000 in
theorem open_five {r : Reach} {b0 : Nat} {v : Value} {d : DataW H} {p : List MemPlace} (hv : Value.okWide Tryz.prog w r b0 74 v) (h : DataW.Trod enc Tryz.prog w base spare held 74 v d p) :
  ∃ c0 c1 c2 c3 c4 : Int, v = .agg #[.int .i64 c0, .int .i64 c1, .int .i64 c2, .int .i64 c3, .int .i64 c4] ∧ p = [] := by
 simp only [Value.okWide, Tryz.underlying74] at hv
 obtain ⟨cs, rfl, hsz, _⟩ := hv
 obtain ⟨c0, c1, c2, c3, c4, rfl⟩ := array5 (hsz.trans cells74)
 obtain ⟨fuel, hf⟩ := h
 obtain ⟨xs, n, _, hx, _, hlen, hfs⟩ := DataW.trod_array Tryz.underlying74 hf
 match xs, hlen with
 | [y0, y1, y2, y3, y4], _ =>
  have h0 := hfs 0 (by decide)
  have h1 := hfs 1 (by decide)
  have h2 := hfs 2 (by decide)
  have h3 := hfs 3 (by decide)
  have h4 := hfs 4 (by decide)
  simp [Value.cells, cells3] at h0 h1 h2 h3 h4
  obtain ⟨a0, e0, f0, _⟩ := DataW.trod_int Tryz.underlying3 h0
  obtain ⟨a1, e1, f1, _⟩ := DataW.trod_int Tryz.underlying3 h1
  obtain ⟨a2, e2, f2, _⟩ := DataW.trod_int Tryz.underlying3 h2
  obtain ⟨a3, e3, f3, _⟩ := DataW.trod_int Tryz.underlying3 h3
  obtain ⟨a4, e4, f4, _⟩ := DataW.trod_int Tryz.underlying3 h4
  simp at e0 e1 e2 e3 e4
  subst e0 e1 e2 e3 e4 f0 f1 f2 f3 f4
  simp only [Prod.mk.injEq] at hx
  exact ⟨a0, a1, a2, a3, a4, rfl, hx.2⟩
end
theorem batchActs_any (c0 c1 c2 c3 c4 : Int) (a : Option Addr) (n cap : Nat) (l : List DAct) (ad : Nat → Addr) (w : World) (hs : Sent w ad) (ha : ArgDos w a n l) :
  Calls Tryz.prog 7 #[.agg #[.int .i64 c0, .int .i64 c1, .int .i64 c2, .int .i64 c3, .int .i64 c4], .slice a n cap] w fun e w' => e = .returned (.bool true) ∧ Below w.heap.size w w' := by
 by_cases hn : 60 < n
 ·exact acts_long c0 c1 c2 c3 c4 a n cap ad w hs hn
 ·cases hf : fOk c0 c1 c2 c3 c4 with
  | false => exact acts_bad c0 c1 c2 c3 c4 a n cap ad w hs (by omega) hf
  | true => exact acts_play c0 c1 c2 c3 c4 a n cap l ad w hs ha (by omega) hf
end Go.Proofs.YtdggddjgipgllaaGreatDoor
