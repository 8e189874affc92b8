/- How a slice of lots that came in is opened, and what the listed errors give Check. -/
import Derived.Test.YtdggddjgipgllaaGreatDoorU00
import Derived.Test.YtdggddjgipgllaaGreatDoorU05
import Derived.Deep.Slices
import Derived.Carry
namespace Go.Proofs.YtdggddjgipgllaaGreatDoor
open Go.ChangeShapes Go.WideShapes Go.ChangeAt Go.RowKit

theorem cells110 : Tryz.prog.cellsOf 56 = 5 := by kernel_rfl

set_option maxRecDepth 100000 in
theorem open_lots {H : Type} {enc : TypeId × Value → H} {w : World} {v : Value} {d : DataW H} {p : List MemPlace} (hv : ∃ a len cap, v = .slice a len cap)
    (h : DataW.Trod enc Tryz.prog w 0 (fun _ => true) true 37 v d p) : ∃ a cap l, v = .slice a l.length cap ∧ ArgLots w a l := by
  obtain ⟨a0, len0, cap0, rfl⟩ := hv
  obtain ⟨fuel, hf⟩ := h
  rcases Go.Deep.open_slice Tryz.underlying37 hf with ⟨hcs, _⟩ | ⟨a, len, cap, m, n, D, Pl, hcs, _, hl, _, hm, _, hx⟩
  · simp [Value.cells] at hcs
    obtain ⟨rfl, rfl, rfl⟩ := hcs
    exact ⟨none, 0, [], rfl, .inl rfl⟩
  · simp [Value.cells] at hcs
    obtain ⟨rfl, rfl, rfl⟩ := hcs
    simp only [if_true] at hm
    have each : ∀ i, i < len0 → ∃ x : Cv.Lot, ∀ j, j < 5 → w.cell? (a.add (i * 5 + j)) = (lotCells x)[j]? := by
      intro i hi
      obtain ⟨cs', h1, h2⟩ := hx i (by omega)
      rw [cells110] at h1
      obtain ⟨_, hlen, hcell⟩ := World.cells?_some h1
      obtain ⟨xs, k, _, _, _, hxl, hf⟩ := DataW.trod_struct Tryz.underlying56 h2
      match xs, hxl, cs', hlen with
      | [y0, y1, y2, y3, y4], _, [c0, c1, c2, c3, c4], _ =>
        have g0 := hf 0 _ rfl
        have g1 := hf 1 _ rfl
        have g2 := hf 2 _ rfl
        have g3 := hf 3 _ rfl
        have g4 := hf 4 _ rfl
        simp [cells3] at g0 g1 g2 g3 g4
        obtain ⟨x0, e0, _, _⟩ := DataW.trod_int Tryz.underlying3 g0
        obtain ⟨x1, e1, _, _⟩ := DataW.trod_int Tryz.underlying3 g1
        obtain ⟨x2, e2, _, _⟩ := DataW.trod_int Tryz.underlying3 g2
        obtain ⟨x3, e3, _, _⟩ := DataW.trod_int Tryz.underlying3 g3
        obtain ⟨x4, e4, _, _⟩ := DataW.trod_int Tryz.underlying3 g4
        simp at e0 e1 e2 e3 e4
        subst e0 e1 e2 e3 e4
        refine ⟨⟨x0, x1, x2, x3, x4⟩, fun j hj => ?_⟩
        have := hcell j hj
        rw [Go.Deep.add_add] at this
        rw [this]
        rfl
    have inh : Inhabited Cv.Lot := ⟨Cv.z⟩
    obtain ⟨q, hq⟩ := Go.Deep.choose_lt each
    have hnth : ∀ i, i < len0 → Cv.nth ((List.range len0).map q) i = q i := fun i hi => by
      unfold Cv.nth
      rw [List.getD_eq_getElem?_getD, List.getElem?_map, List.getElem?_range hi]
      rfl
    refine ⟨some a, cap0, (List.range len0).map q, by simp, .inr ⟨a, rfl, fun j u hu => ?_⟩⟩
    have hj : j < len0 * 5 := by
      have := (List.getElem?_eq_some_iff.1 hu).1
      rw [flat_length] at this
      simpa using this
    have hj5 : j / 5 < len0 := by omega
    have := flat_at ((List.range len0).map q) (j / 5) (j % 5) (by simpa using hj5) (by omega)
    rw [show j / 5 * 5 + j % 5 = j by omega, hnth _ hj5, hu] at this
    rw [show j = j / 5 * 5 + j % 5 by omega, hq _ hj5 _ (by omega), ← this]

theorem er_of {W : World} (h : laidMet Tryz.prog [("gavelhouse/api.ErrBound", Rows.laid_gavelhouse_api_ErrBound), ("gavelhouse/api.ErrShape", Rows.laid_gavelhouse_api_ErrShape), ("gavelhouse/api.ErrExist", Rows.laid_gavelhouse_api_ErrExist), ("gavelhouse/api.ErrFull", Rows.laid_gavelhouse_api_ErrFull)] W) :
    ∃ a1 a2 a6 a7, Er W 252 (.pointer (some a1)) (.pointer (some a6)) (.pointer (some a7)) ∧ W.cell? ⟨7, 0, none⟩ = some (.iface 252 (.pointer (some a2))) := by
  obtain ⟨a1, _, h1, _⟩ := one_sentinel h (g := 0) (by kernel_rfl) (by kernel_rfl)
  obtain ⟨a2, _, h2, _⟩ := one_sentinel h.tail (g := 7) (by kernel_rfl) (by kernel_rfl)
  obtain ⟨a6, _, h6, _⟩ := one_sentinel h.tail.tail (g := 4) (by kernel_rfl) (by kernel_rfl)
  obtain ⟨a7, _, h7, _⟩ := one_sentinel h.tail.tail.tail (g := 2) (by kernel_rfl) (by kernel_rfl)
  exact ⟨a1, a2, a6, a7, ⟨h1, h6, h7⟩, h2⟩
end Go.Proofs.YtdggddjgipgllaaGreatDoor
