/- How a slice of acts on a floor that came in is opened, and what the listed errors give. -/
import Derived.Test.YtdggddjgipgllaaGreatDoorG07
import Derived.Test.YtdggddjgipgllaaGreatDoorG14
namespace Go.Proofs.YtdggddjgipgllaaGreatDoor
open Go.ChangeShapes Go.WideShapes Go.ChangeAt Go.RowKit

theorem cellsAsk : Tryz.prog.cellsOf 34 = 8 := by kernel_rfl
theorem cellsDo : Tryz.prog.cellsOf 36 = 12 := by kernel_rfl
theorem cellsStr : Tryz.prog.cellsOf 9 = 1 := by kernel_rfl
theorem cellsU32 : Tryz.prog.cellsOf 23 = 1 := by kernel_rfl
theorem cellsU8 : Tryz.prog.cellsOf 5 = 1 := by kernel_rfl

set_option maxRecDepth 100000 in
theorem open_dos {H : Type} {enc : TypeId × Value → H} {w : World} {v : Value} {d : DataW H} {p : List MemPlace} (hv : ∃ a len cap, v = .slice a len cap)
  (h : DataW.Trod enc Tryz.prog w 0 (fun _ => true) true 22 v d p) : ∃ a n cap l, v = .slice a n cap ∧ ArgDos w a n l := by
 obtain ⟨a0, len0, cap0, rfl⟩ := hv
 obtain ⟨fuel, hf⟩ := h
 rcases Go.Deep.open_slice Tryz.underlying22 hf with ⟨hcs, _⟩ | ⟨a, len, cap, m, n, D, Pl, hcs, _, hl, _, hm, _, hx⟩
 ·simp [Value.cells] at hcs
  obtain ⟨rfl, rfl, rfl⟩ := hcs
  exact ⟨none, 0, 0, [], rfl, rfl, .inl rfl, fun i hi => absurd hi (Nat.not_lt_zero i)⟩
 ·simp [Value.cells] at hcs
  obtain ⟨rfl, rfl, rfl⟩ := hcs
  simp only [if_true] at hm
  have each : ∀ i, i < len0 → ∃ x : DAct, (∀ j, j < 12 → w.cell? (a.add (i * 12 + j)) = (doCells x)[j]?) ∧ Ra.IsU x.s := by
   intro i hi
   obtain ⟨cs', h1, h2⟩ := hx i (by omega)
   rw [cellsDo] at h1
   obtain ⟨_, hlen, hcell⟩ := World.cells?_some h1
   obtain ⟨xs, k, _, _, _, hxl, hf⟩ := DataW.trod_struct Tryz.underlying36 h2
   match xs, hxl, cs', hlen with
   | [y0, y1, y2, y3, y4], _, [c0, c1, c2, c3, c4, c5, c6, c7, c8, c9, c10, c11], _ =>
    have g0 := hf 0 _ rfl
    have g1 := hf 1 _ rfl
    have g2 := hf 2 _ rfl
    have g3 := hf 3 _ rfl
    have g4 := hf 4 _ rfl
    simp [cells3, cellsAsk, cellsStr, cellsU32] at g0 g1 g2 g3 g4
    obtain ⟨x0, e0, _, _⟩ := DataW.trod_string Tryz.underlying9 g0
    obtain ⟨ys, k1, _, _, _, hyl, hf1⟩ := DataW.trod_struct Tryz.underlying34 g1
    obtain ⟨x9, e9, _, _⟩ := DataW.trod_int Tryz.underlying3 g2
    obtain ⟨x10, e10, _, _⟩ := DataW.trod_int Tryz.underlying3 g3
    obtain ⟨x11, e11, _, wf⟩ := DataW.trod_int Tryz.underlying23 g4
    match ys, hyl with
    | [z0, z1, z2, z3, z4, z5, z6, z7], _ =>
     have k0 := hf1 0 _ rfl
     have k1 := hf1 1 _ rfl
     have k2 := hf1 2 _ rfl
     have k3 := hf1 3 _ rfl
     have k4 := hf1 4 _ rfl
     have k5 := hf1 5 _ rfl
     have k6 := hf1 6 _ rfl
     have k7 := hf1 7 _ rfl
     simp [cells3, cellsU8] at k0 k1 k2 k3 k4 k5 k6 k7
     obtain ⟨x1, e1, _, _⟩ := DataW.trod_int Tryz.underlying5 k0
     obtain ⟨x2, e2, _, _⟩ := DataW.trod_int Tryz.underlying3 k1
     obtain ⟨x3, e3, _, _⟩ := DataW.trod_int Tryz.underlying3 k2
     obtain ⟨x4, e4, _, _⟩ := DataW.trod_int Tryz.underlying3 k3
     obtain ⟨x5, e5, _, _⟩ := DataW.trod_int Tryz.underlying3 k4
     obtain ⟨x6, e6, _, _⟩ := DataW.trod_int Tryz.underlying3 k5
     obtain ⟨x7, e7, _, _⟩ := DataW.trod_int Tryz.underlying3 k6
     obtain ⟨x8, e8, _, _⟩ := DataW.trod_int Tryz.underlying3 k7
     simp at e0 e1 e2 e3 e4 e5 e6 e7 e8 e9 e10 e11
     subst e0 e1 e2 e3 e4 e5 e6 e7 e8 e9 e10 e11
     refine ⟨⟨x0, ⟨x1, x2, x3, x4, x5, x6, x7, x8⟩, x9, x10, x11⟩, fun j hj => ?_, ?_⟩
     ·have := hcell j hj
      rw [Go.Deep.add_add] at this
      rw [this]
      rfl
     ·have hh := wf
      simp [Lit.wf] at hh
      have e1 : IntKind.u32.min = 0 := rfl
      have e2 : IntKind.u32.max = 4294967295 := rfl
      show 0 ≤ x11 ∧ x11 < 4294967296
      exact ⟨by omega, by omega⟩
  have inh : Inhabited DAct := ⟨dz⟩
  obtain ⟨q, hq⟩ := Go.Deep.choose_lt each
  have hnth : ∀ i, i < len0 → dnth ((List.range len0).map q) i = q i := fun i hi => by
   unfold dnth
   rw [List.getD_eq_getElem?_getD, List.getElem?_map, List.getElem?_range hi]
   rfl
  refine ⟨some a, len0, cap0, (List.range len0).map q, rfl, by simp, .inr ⟨a, rfl, fun i hi => ?_⟩, fun i hi => by rw [hnth i hi]; exact (hq i hi).2⟩
  have hi' : i < len0 := by simpa using hi
  rw [hnth i hi']
  have e : ∀ j, 0 < j → a.add (i * 12 + j) = ⟨(a.add (i * 12)).block, (a.add (i * 12)).off + j, none⟩ := by
   intro j hj
   unfold Addr.add
   rw [if_neg (by omega)]
   split
   ·simp_all
   ·simp; omega
  exact ⟨(hq i hi').1 0 (by decide), by rw [← e 1 (by decide)]; exact (hq i hi').1 1 (by decide), by rw [← e 2 (by decide)]; exact (hq i hi').1 2 (by decide), by rw [← e 3 (by decide)]; exact (hq i hi').1 3 (by decide), by rw [← e 4 (by decide)]; exact (hq i hi').1 4 (by decide), by rw [← e 5 (by decide)]; exact (hq i hi').1 5 (by decide), by rw [← e 6 (by decide)]; exact (hq i hi').1 6 (by decide), by rw [← e 7 (by decide)]; exact (hq i hi').1 7 (by decide), by rw [← e 8 (by decide)]; exact (hq i hi').1 8 (by decide), by rw [← e 9 (by decide)]; exact (hq i hi').1 9 (by decide), by rw [← e 10 (by decide)]; exact (hq i hi').1 10 (by decide), by rw [← e 11 (by decide)]; exact (hq i hi').1 11 (by decide)⟩

end Go.Proofs.YtdggddjgipgllaaGreatDoor
