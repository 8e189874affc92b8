/- How a slice of acts that came in is opened, and what the listed errors give. -/
import Derived.Test.YtfifmigmdiegdaaDoorData
import Derived.Test.YtfifmigmdiegdaaDoorIkArg
namespace Go.Proofs.YtfifmigmdiegdaaDoor
open Go.ChangeShapes Go.WideShapes Go.ChangeAt Go.RowKit

theorem cellsAsk : Tryd.prog.cellsOf 30 = 8 := by kernel_rfl
theorem cellsDo : Tryd.prog.cellsOf 32 = 10 := by kernel_rfl
theorem cellsStr : Tryd.prog.cellsOf 9 = 1 := by kernel_rfl
theorem cellsU8 : Tryd.prog.cellsOf 5 = 1 := by kernel_rfl

set_option maxRecDepth 100000 in
theorem open_dos {H : Type} {enc : TypeId × Value → H} {w : World} {v : Value} {d : DataW H} {p : List MemPlace} (hv : ∃ a len cap, v = .slice a len cap)
    (h : DataW.Trod enc Tryd.prog w 0 (fun _ => true) true 22 v d p) : ∃ a n cap l, v = .slice a n cap ∧ ArgDos w a n l := by
  obtain ⟨a0, len0, cap0, rfl⟩ := hv
  obtain ⟨fuel, hf⟩ := h
  rcases Go.Deep.open_slice Tryd.underlying22 hf with ⟨hcs, _⟩ | ⟨a, len, cap, m, n, D, Pl, hcs, _, hl, _, hm, _, hx⟩
  · simp [Value.cells] at hcs
    obtain ⟨rfl, rfl, rfl⟩ := hcs
    exact ⟨none, 0, 0, [], rfl, rfl, .inl rfl⟩
  · simp [Value.cells] at hcs
    obtain ⟨rfl, rfl, rfl⟩ := hcs
    simp only [if_true] at hm
    have each : ∀ i, i < len0 → ∃ x : DAct, ∀ j, j < 10 → w.cell? (a.add (i * 10 + j)) = (doCells x)[j]? := by
      intro i hi
      obtain ⟨cs', h1, h2⟩ := hx i (by omega)
      rw [cellsDo] at h1
      obtain ⟨_, hlen, hcell⟩ := World.cells?_some h1
      obtain ⟨xs, k, _, _, _, hxl, hf⟩ := DataW.trod_struct Tryd.underlying32 h2
      match xs, hxl, cs', hlen with
      | [y0, y1, y2], _, [c0, c1, c2, c3, c4, c5, c6, c7, c8, c9], _ =>
        have g0 := hf 0 _ rfl
        have g1 := hf 1 _ rfl
        have g2 := hf 2 _ rfl
        simp [cells3, cellsAsk, cellsStr] at g0 g1 g2
        obtain ⟨x0, e0, _, _⟩ := DataW.trod_string Tryd.underlying9 g0
        obtain ⟨ys, k1, _, _, _, hyl, hf1⟩ := DataW.trod_struct Tryd.underlying30 g1
        obtain ⟨x9, e9, _, _⟩ := DataW.trod_int Tryd.underlying3 g2
        match ys, hyl with
        | [z0, z1, z2, z3, z4, z5, z6, z7], _ =>
          have k0 := hf1 0 _ rfl
          have k1 := hf1 1 _ rfl
          have k2 := hf1 2 _ rfl
          have k3 := hf1 3 _ rfl
          have k4 := hf1 4 _ rfl
          have k5 := hf1 5 _ rfl
          have k6 := hf1 6 _ rfl
          have k7 := hf1 7 _ rfl
          simp [cells3, cellsU8] at k0 k1 k2 k3 k4 k5 k6 k7
          obtain ⟨x1, e1, _, _⟩ := DataW.trod_int Tryd.underlying5 k0
          obtain ⟨x2, e2, _, _⟩ := DataW.trod_int Tryd.underlying3 k1
          obtain ⟨x3, e3, _, _⟩ := DataW.trod_int Tryd.underlying3 k2
          obtain ⟨x4, e4, _, _⟩ := DataW.trod_int Tryd.underlying3 k3
          obtain ⟨x5, e5, _, _⟩ := DataW.trod_int Tryd.underlying3 k4
          obtain ⟨x6, e6, _, _⟩ := DataW.trod_int Tryd.underlying3 k5
          obtain ⟨x7, e7, _, _⟩ := DataW.trod_int Tryd.underlying3 k6
          obtain ⟨x8, e8, _, _⟩ := DataW.trod_int Tryd.underlying3 k7
          simp at e0 e1 e2 e3 e4 e5 e6 e7 e8 e9
          subst e0 e1 e2 e3 e4 e5 e6 e7 e8 e9
          refine ⟨⟨x0, ⟨x1, x2, x3, x4, x5, x6, x7, x8⟩, x9⟩, fun j hj => ?_⟩
          have := hcell j hj
          rw [Go.Deep.add_add] at this
          rw [this]
          rfl
    have inh : Inhabited DAct := ⟨dz⟩
    obtain ⟨q, hq⟩ := Go.Deep.choose_lt each
    have hnth : ∀ i, i < len0 → dnth ((List.range len0).map q) i = q i := fun i hi => by
      unfold dnth
      rw [List.getD_eq_getElem?_getD, List.getElem?_map, List.getElem?_range hi]
      rfl
    refine ⟨some a, len0, cap0, (List.range len0).map q, rfl, by simp, .inr ⟨a, rfl, fun i hi => ?_⟩⟩
    have hi' : i < len0 := by simpa using hi
    rw [hnth i hi']
    have e : ∀ j, 0 < j → a.add (i * 10 + j) = ⟨(a.add (i * 10)).block, (a.add (i * 10)).off + j, none⟩ := by
      intro j hj
      unfold Addr.add
      rw [if_neg (by omega)]
      split
      · simp_all
      · simp; omega
    exact ⟨hq i hi' 0 (by decide), by rw [← e 1 (by decide)]; exact hq i hi' 1 (by decide), by rw [← e 2 (by decide)]; exact hq i hi' 2 (by decide), by rw [← e 3 (by decide)]; exact hq i hi' 3 (by decide), by rw [← e 4 (by decide)]; exact hq i hi' 4 (by decide), by rw [← e 5 (by decide)]; exact hq i hi' 5 (by decide), by rw [← e 6 (by decide)]; exact hq i hi' 6 (by decide), by rw [← e 7 (by decide)]; exact hq i hi' 7 (by decide), by rw [← e 8 (by decide)]; exact hq i hi' 8 (by decide), by rw [← e 9 (by decide)]; exact hq i hi' 9 (by decide)⟩

theorem ier_of {W : World} (h : laidMet Tryd.prog [("gavelhouse/api.ErrBound", Rows.laid_gavelhouse_api_ErrBound), ("gavelhouse/api.ErrKind", Rows.laid_gavelhouse_api_ErrKind), ("gavelhouse/api.ErrFull", Rows.laid_gavelhouse_api_ErrFull)] W) : ∃ T, IEr W T := by
  obtain ⟨a1, _, h1, _⟩ := one_sentinel h (g := 1) (by kernel_rfl) (by kernel_rfl)
  obtain ⟨a3, _, h3, _⟩ := one_sentinel h.tail (g := 0) (by kernel_rfl) (by kernel_rfl)
  obtain ⟨a7, _, h7, _⟩ := one_sentinel h.tail.tail (g := 2) (by kernel_rfl) (by kernel_rfl)
  exact ⟨fun g => if g = 1 then .pointer (some a1) else if g = 3 then .pointer (some a3) else .pointer (some a7), ⟨h3, h1, h7⟩⟩
end Go.Proofs.YtfifmigmdiegdaaDoor
