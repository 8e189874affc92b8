/- How a slice of acts of purses, and a lot, that came in are opened, and what the listed errors give a purse. -/
import Derived.Test.YtgmncdpjbphfhaaDoorData
import Derived.Test.YtgmncdpjbphfhaaDoorPuArg
import Derived.Test.YtgmncdpjbphfhaaDoorPuCheck
import Derived.Deep.Slices
import Derived.Carry
import Derived.Laws.IdiomArrays
namespace Go.Proofs.YtgmncdpjbphfhaaDoor
open Go.ChangeShapes Go.WideShapes Go.ChangeAt Go.RowKit

theorem cells36 : Tryd.prog.cellsOf 36 = 19 := by kernel_rfl
theorem cells34 : Tryd.prog.cellsOf 34 = 5 := by kernel_rfl
theorem cells27 : Tryd.prog.cellsOf 27 = 3 := by kernel_rfl

set_option maxRecDepth 100000 in
theorem trod_lot {H : Type} {enc : TypeId × Value → H} {w : World} {base : Nat} {spare : Nat → Bool} {held : Bool} {fuel : Nat} {c0 c1 c2 c3 c4 : Value} {x : DataW H × List MemPlace}
    (h : DataW.trod enc Tryd.prog w base spare held fuel 34 [c0, c1, c2, c3, c4] = some x) : ∃ l : Cv.Lot, [c0, c1, c2, c3, c4] = [.int .i64 l.id, .int .i64 l.ow, .int .i64 l.sd, .int .i64 l.pr, .int .i64 l.q] ∧ x.2 = [] := by
  obtain ⟨xs, k, _, hx, _, hxl, hf⟩ := DataW.trod_struct Tryd.underlying34 h
  match xs, hxl with
  | [z0, z1, z2, z3, z4], _ =>
    have k0 := hf 0 _ rfl
    have k1 := hf 1 _ rfl
    have k2 := hf 2 _ rfl
    have k3 := hf 3 _ rfl
    have k4 := hf 4 _ rfl
    simp [cells3] at k0 k1 k2 k3 k4
    obtain ⟨x1, e1, f1, _⟩ := DataW.trod_int Tryd.underlying3 k0
    obtain ⟨x2, e2, f2, _⟩ := DataW.trod_int Tryd.underlying3 k1
    obtain ⟨x3, e3, f3, _⟩ := DataW.trod_int Tryd.underlying3 k2
    obtain ⟨x4, e4, f4, _⟩ := DataW.trod_int Tryd.underlying3 k3
    obtain ⟨x5, e5, f5, _⟩ := DataW.trod_int Tryd.underlying3 k4
    simp at e1 e2 e3 e4 e5
    subst e1 e2 e3 e4 e5 f1 f2 f3 f4 f5
    exact ⟨⟨x1, x2, x3, x4, x5⟩, rfl, by rw [hx]; rfl⟩

set_option maxRecDepth 100000 in
theorem open_lot {H : Type} {enc : TypeId × Value → H} {w : World} {r : Reach} {b0 : Nat} {v : Value} {d : DataW H} {p : List MemPlace} (hv : Value.okWide Tryd.prog w r b0 34 v)
    (h : DataW.Trod enc Tryd.prog w 0 (fun _ => true) true 34 v d p) : ∃ l : Cv.Lot, v = lotV l ∧ p = [] := by
  obtain ⟨cs, rfl, hsz⟩ := okWide_struct Tryd.underlying34 hv
  obtain ⟨l⟩ := cs
  rw [cells34] at hsz
  match l, hsz with
  | [c0, c1, c2, c3, c4], _ =>
    obtain ⟨fuel, hf⟩ := h
    obtain ⟨l, e, hp⟩ := trod_lot (by simpa [Value.cells] using hf)
    simp at e
    obtain ⟨rfl, rfl, rfl, rfl, rfl⟩ := e
    exact ⟨l, rfl, hp⟩

set_option maxRecDepth 100000 in
theorem open_pays {H : Type} {enc : TypeId × Value → H} {w : World} {v : Value} {d : DataW H} {p : List MemPlace} (hv : ∃ a len cap, v = .slice a len cap)
    (h : DataW.Trod enc Tryd.prog w 0 (fun _ => true) true 22 v d p) : ∃ a n cap l, v = .slice a n cap ∧ ArgPays w a n l := by
  obtain ⟨a0, len0, cap0, rfl⟩ := hv
  obtain ⟨fuel, hf⟩ := h
  rcases Go.Deep.open_slice Tryd.underlying22 hf with ⟨hcs, _⟩ | ⟨a, len, cap, m, n, D, Pl, hcs, _, hl, _, hm, _, hx⟩
  · simp [Value.cells] at hcs
    obtain ⟨rfl, rfl, rfl⟩ := hcs
    exact ⟨none, 0, 0, [], rfl, rfl, .inl rfl⟩
  · simp [Value.cells] at hcs
    obtain ⟨rfl, rfl, rfl⟩ := hcs
    simp only [if_true] at hm
    have each : ∀ i, i < len0 → ∃ x : PAct, ∀ j, j < 19 → w.cell? (a.add (i * 19 + j)) = (payCells x)[j]? := by
      intro i hi
      obtain ⟨cs', h1, h2⟩ := hx i (by omega)
      rw [cells36] at h1
      obtain ⟨_, hlen, hcell⟩ := World.cells?_some h1
      obtain ⟨xs, k, _, _, _, hxl, hf⟩ := DataW.trod_struct Tryd.underlying36 h2
      match xs, hxl, cs', hlen with
      | [y0, y1, y2, y3, y4, y5, y6, y7, y8], _, [c0, c1, c2, c3, c4, c5, c6, c7, c8, c9, c10, c11, c12, c13, c14, c15, c16, c17, c18], _ =>
        have g0 := hf 0 _ rfl
        have g1 := hf 1 _ rfl
        have g2 := hf 2 _ rfl
        have g3 := hf 3 _ rfl
        have g4 := hf 4 _ rfl
        have g5 := hf 5 _ rfl
        have g6 := hf 6 _ rfl
        have g7 := hf 7 _ rfl
        have g8 := hf 8 _ rfl
        simp [cells3, cells34, cells9, cells27] at g0 g1 g2 g3 g4 g5 g6 g7 g8
        obtain ⟨x0, e0, _, _⟩ := DataW.trod_string Tryd.underlying9 g0
        obtain ⟨x1, e1, _, _⟩ := DataW.trod_int Tryd.underlying3 g1
        obtain ⟨x2, e2, _, _⟩ := DataW.trod_int Tryd.underlying3 g2
        obtain ⟨z0, z1, z2, kk, _, t0, t1, t2⟩ := trod_array3 Tryd.underlying27 cells3 g3
        obtain ⟨x3, e3, _, _⟩ := DataW.trod_int Tryd.underlying3 t0
        obtain ⟨x4, e4, _, _⟩ := DataW.trod_int Tryd.underlying3 t1
        obtain ⟨x5, e5, _, _⟩ := DataW.trod_int Tryd.underlying3 t2
        obtain ⟨x6, e6, _, _⟩ := DataW.trod_int Tryd.underlying3 g4
        obtain ⟨la, ea, _⟩ := trod_lot g5
        obtain ⟨lb, eb, _⟩ := trod_lot g6
        obtain ⟨x17, e17, _, _⟩ := DataW.trod_int Tryd.underlying3 g7
        obtain ⟨x18, e18, _, _⟩ := DataW.trod_int Tryd.underlying3 g8
        simp at e0 e1 e2 e3 e4 e5 e6 ea eb e17 e18
        obtain ⟨a0, a1, a2, a3, a4⟩ := ea
        obtain ⟨b0, b1, b2, b3, b4⟩ := eb
        subst e0 e1 e2 e3 e4 e5 e6 e17 e18 a0 a1 a2 a3 a4 b0 b1 b2 b3 b4
        refine ⟨⟨x0, x1, x2, x3, x4, x5, x6, la, lb, x17, x18⟩, fun j hj => ?_⟩
        have := hcell j hj
        rw [Go.Deep.add_add] at this
        rw [this]
        rfl
    have inh : Inhabited PAct := ⟨pz⟩
    obtain ⟨q, hq⟩ := Go.Deep.choose_lt each
    have hnth : ∀ i, i < len0 → pnth ((List.range len0).map q) i = q i := fun i hi => by
      unfold pnth
      rw [List.getD_eq_getElem?_getD, List.getElem?_map, List.getElem?_range hi]
      rfl
    refine ⟨some a, len0, cap0, (List.range len0).map q, rfl, by simp, .inr ⟨a, rfl, fun i hi => ?_⟩⟩
    have hi' : i < len0 := by simpa using hi
    rw [hnth i hi']
    have e : ∀ j, 0 < j → a.add (i * 19 + j) = ⟨(a.add (i * 19)).block, (a.add (i * 19)).off + j, none⟩ := by
      intro j hj
      unfold Addr.add
      rw [if_neg (by omega)]
      split
      · simp_all
      · simp; omega
    exact ⟨hq i hi' 0 (by decide), fun j h0 hj => by rw [← e j h0]; exact hq i hi' j hj⟩

def errAt (a1 a2 a6 a7 a9 a11 : Addr) : Nat → Value
  | 1 => .pointer (some a1)
  | 2 => .pointer (some a2)
  | 6 => .pointer (some a6)
  | 7 => .pointer (some a7)
  | 9 => .pointer (some a9)
  | _ => .pointer (some a11)
theorem per_of {W : World} (h : laidMet Tryd.prog [("gavelhouse/api.ErrBound", Rows.laid_gavelhouse_api_ErrBound), ("gavelhouse/api.ErrExist", Rows.laid_gavelhouse_api_ErrExist), ("gavelhouse/api.ErrFull", Rows.laid_gavelhouse_api_ErrFull), ("gavelhouse/api.ErrPoor", Rows.laid_gavelhouse_api_ErrPoor)] W) :
    ∃ v, PEr W v := by
  obtain ⟨a1, _, h1, _⟩ := one_sentinel h (g := 0) (by kernel_rfl) (by kernel_rfl)
  obtain ⟨a6, _, h6, _⟩ := one_sentinel h.tail (g := 8) (by kernel_rfl) (by kernel_rfl)
  obtain ⟨a7, _, h7, _⟩ := one_sentinel h.tail.tail (g := 1) (by kernel_rfl) (by kernel_rfl)
  obtain ⟨a9, _, h9, _⟩ := one_sentinel h.tail.tail.tail (g := 2) (by kernel_rfl) (by kernel_rfl)
  exact ⟨errAt a1 a1 a6 a7 a9 a1, ⟨h1, h6, h7⟩, h9⟩
theorem ter_of {W : World} (h : laidMet Tryd.prog [("gavelhouse/api.ErrBound", Rows.laid_gavelhouse_api_ErrBound), ("gavelhouse/api.ErrShape", Rows.laid_gavelhouse_api_ErrShape), ("gavelhouse/api.ErrExist", Rows.laid_gavelhouse_api_ErrExist), ("gavelhouse/api.ErrFull", Rows.laid_gavelhouse_api_ErrFull), ("gavelhouse/api.ErrPoor", Rows.laid_gavelhouse_api_ErrPoor), ("gavelhouse/api.ErrOrder", Rows.laid_gavelhouse_api_ErrOrder)] W) :
    ∃ v, TEr W v := by
  obtain ⟨a1, _, h1, _⟩ := one_sentinel h (g := 0) (by kernel_rfl) (by kernel_rfl)
  obtain ⟨a2, _, h2, _⟩ := one_sentinel h.tail (g := 4) (by kernel_rfl) (by kernel_rfl)
  obtain ⟨a6, _, h6, _⟩ := one_sentinel h.tail.tail (g := 8) (by kernel_rfl) (by kernel_rfl)
  obtain ⟨a7, _, h7, _⟩ := one_sentinel h.tail.tail.tail (g := 1) (by kernel_rfl) (by kernel_rfl)
  obtain ⟨a9, _, h9, _⟩ := one_sentinel h.tail.tail.tail.tail (g := 2) (by kernel_rfl) (by kernel_rfl)
  obtain ⟨a11, _, h11, _⟩ := one_sentinel h.tail.tail.tail.tail.tail (g := 11) (by kernel_rfl) (by kernel_rfl)
  exact ⟨errAt a1 a2 a6 a7 a9 a11, ⟨⟨h1, h6, h7⟩, h9⟩, h2, h11⟩
end Go.Proofs.YtgmncdpjbphfhaaDoor
