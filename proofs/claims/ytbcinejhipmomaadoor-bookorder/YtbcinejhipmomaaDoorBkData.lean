/- How a slice of acts that came in is opened, and what the listed errors give a book. -/
import Derived.Test.YtbcinejhipmomaaDoorCvData
import Derived.Test.YtbcinejhipmomaaDoorBkArg
namespace Go.Proofs.YtbcinejhipmomaaDoor
open Go.ChangeShapes Go.WideShapes Go.ChangeAt Go.RowKit

theorem cells51 : Tryd.prog.cellsOf 51 = 8 := by kernel_rfl
theorem cells43 : Tryd.prog.cellsOf 43 = 5 := by kernel_rfl

set_option maxRecDepth 100000 in
theorem open_acts {H : Type} {enc : TypeId × Value → H} {w : World} {v : Value} {d : DataW H} {p : List MemPlace} (hv : ∃ a len cap, v = .slice a len cap)
    (h : DataW.Trod enc Tryd.prog w 0 (fun _ => true) true 47 v d p) : ∃ a n cap l, v = .slice a n cap ∧ ArgActs w a n l := by
  obtain ⟨a0, len0, cap0, rfl⟩ := hv
  obtain ⟨fuel, hf⟩ := h
  rcases Go.Deep.open_slice Tryd.underlying47 hf with ⟨hcs, _⟩ | ⟨a, len, cap, m, n, D, Pl, hcs, _, hl, _, hm, _, hx⟩
  · simp [Value.cells] at hcs
    obtain ⟨rfl, rfl, rfl⟩ := hcs
    exact ⟨none, 0, 0, [], rfl, rfl, .inl rfl⟩
  · simp [Value.cells] at hcs
    obtain ⟨rfl, rfl, rfl⟩ := hcs
    simp only [if_true] at hm
    have each : ∀ i, i < len0 → ∃ x : BAct, ∀ j, j < 8 → w.cell? (a.add (i * 8 + j)) = (actCells x)[j]? := by
      intro i hi
      obtain ⟨cs', h1, h2⟩ := hx i (by omega)
      rw [cells51] at h1
      obtain ⟨_, hlen, hcell⟩ := World.cells?_some h1
      obtain ⟨xs, k, _, _, _, hxl, hf⟩ := DataW.trod_struct Tryd.underlying51 h2
      match xs, hxl, cs', hlen with
      | [y0, y1, y2, y3], _, [c0, c1, c2, c3, c4, c5, c6, c7], _ =>
        have g0 := hf 0 _ rfl
        have g1 := hf 1 _ rfl
        have g2 := hf 2 _ rfl
        have g3 := hf 3 _ rfl
        simp [cells3, cells43, cells9] at g0 g1 g2 g3
        obtain ⟨x0, e0, _, _⟩ := DataW.trod_string Tryd.underlying9 g0
        obtain ⟨ys, k1, _, _, _, hyl, hf1⟩ := DataW.trod_struct Tryd.underlying43 g1
        obtain ⟨x6, e6, _, _⟩ := DataW.trod_int Tryd.underlying3 g2
        obtain ⟨x7, e7, _, _⟩ := DataW.trod_int Tryd.underlying3 g3
        match ys, hyl with
        | [z0, z1, z2, z3, z4], _ =>
          have k0 := hf1 0 _ rfl
          have k1 := hf1 1 _ rfl
          have k2 := hf1 2 _ rfl
          have k3 := hf1 3 _ rfl
          have k4 := hf1 4 _ rfl
          simp [cells3] at k0 k1 k2 k3 k4
          obtain ⟨x1, e1, _, _⟩ := DataW.trod_int Tryd.underlying3 k0
          obtain ⟨x2, e2, _, _⟩ := DataW.trod_int Tryd.underlying3 k1
          obtain ⟨x3, e3, _, _⟩ := DataW.trod_int Tryd.underlying3 k2
          obtain ⟨x4, e4, _, _⟩ := DataW.trod_int Tryd.underlying3 k3
          obtain ⟨x5, e5, _, _⟩ := DataW.trod_int Tryd.underlying3 k4
          simp at e0 e1 e2 e3 e4 e5 e6 e7
          subst e0 e1 e2 e3 e4 e5 e6 e7
          refine ⟨⟨x0, ⟨x1, x2, x3, x4, x5⟩, x6, x7⟩, fun j hj => ?_⟩
          have := hcell j hj
          rw [Go.Deep.add_add] at this
          rw [this]
          rfl
    have inh : Inhabited BAct := ⟨az⟩
    obtain ⟨q, hq⟩ := Go.Deep.choose_lt each
    have hnth : ∀ i, i < len0 → anth ((List.range len0).map q) i = q i := fun i hi => by
      unfold anth
      rw [List.getD_eq_getElem?_getD, List.getElem?_map, List.getElem?_range hi]
      rfl
    refine ⟨some a, len0, cap0, (List.range len0).map q, rfl, by simp, .inr ⟨a, rfl, fun i hi => ?_⟩⟩
    have hi' : i < len0 := by simpa using hi
    rw [hnth i hi']
    have e : ∀ j, 0 < j → a.add (i * 8 + j) = ⟨(a.add (i * 8)).block, (a.add (i * 8)).off + j, none⟩ := by
      intro j hj
      unfold Addr.add
      rw [if_neg (by omega)]
      split
      · simp_all
      · simp; omega
    exact ⟨hq i hi' 0 (by decide), by rw [← e 1 (by decide)]; exact hq i hi' 1 (by decide), by rw [← e 2 (by decide)]; exact hq i hi' 2 (by decide), by rw [← e 3 (by decide)]; exact hq i hi' 3 (by decide), by rw [← e 4 (by decide)]; exact hq i hi' 4 (by decide), by rw [← e 5 (by decide)]; exact hq i hi' 5 (by decide), by rw [← e 6 (by decide)]; exact hq i hi' 6 (by decide), by rw [← e 7 (by decide)]; exact hq i hi' 7 (by decide)⟩

theorem er4_of {W : World} (h : laidMet Tryd.prog [("gavelhouse/api.ErrBound", Rows.laid_gavelhouse_api_ErrBound), ("gavelhouse/api.ErrNone", Rows.laid_gavelhouse_api_ErrNone), ("gavelhouse/api.ErrExist", Rows.laid_gavelhouse_api_ErrExist), ("gavelhouse/api.ErrFull", Rows.laid_gavelhouse_api_ErrFull)] W) :
    ∃ a1 a5 a6 a7, Er4 W 177 (.pointer (some a1)) (.pointer (some a5)) (.pointer (some a6)) (.pointer (some a7)) := by
  obtain ⟨a1, _, h1, _⟩ := one_sentinel h (g := 0) (by kernel_rfl) (by kernel_rfl)
  obtain ⟨a5, _, h5, _⟩ := one_sentinel h.tail (g := 3) (by kernel_rfl) (by kernel_rfl)
  obtain ⟨a6, _, h6, _⟩ := one_sentinel h.tail.tail (g := 1) (by kernel_rfl) (by kernel_rfl)
  obtain ⟨a7, _, h7, _⟩ := one_sentinel h.tail.tail.tail (g := 2) (by kernel_rfl) (by kernel_rfl)
  exact ⟨a1, a5, a6, a7, ⟨h1, h6, h7⟩, h5⟩
end Go.Proofs.YtbcinejhipmomaaDoor
