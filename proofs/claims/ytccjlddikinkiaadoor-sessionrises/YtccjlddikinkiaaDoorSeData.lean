/- How a slice of requests that came in is opened, and what the listed errors give. -/
import Derived.Test.YtccjlddikinkiaaDoorData
import Derived.Test.YtccjlddikinkiaaDoorSeArg
namespace Go.Proofs.YtccjlddikinkiaaDoor
open Go.ChangeShapes Go.WideShapes Go.ChangeAt Go.RowKit

theorem cellsAsk : Tryd.prog.cellsOf 35 = 8 := by kernel_rfl
theorem cellsU8 : Tryd.prog.cellsOf 5 = 1 := by kernel_rfl
def askCells (x : Ask) : List Value := [.int .u8 x.k, .int .i64 x.c, .int .i64 x.sq, .int .i64 x.it, .int .i64 x.sd, .int .i64 x.pr, .int .i64 x.q, .int .i64 x.id]

set_option maxRecDepth 100000 in
theorem open_asks {H : Type} {enc : TypeId × Value → H} {w : World} {v : Value} {d : DataW H} {p : List MemPlace} (hv : ∃ a len cap, v = .slice a len cap)
    (h : DataW.Trod enc Tryd.prog w 0 (fun _ => true) true 22 v d p) : ∃ a n cap l, v = .slice a n cap ∧ ArgAsks w a n l := by
  obtain ⟨a0, len0, cap0, rfl⟩ := hv
  obtain ⟨fuel, hf⟩ := h
  rcases Go.Deep.open_slice Tryd.underlying22 hf with ⟨hcs, _⟩ | ⟨a, len, cap, m, n, D, Pl, hcs, _, hl, _, hm, _, hx⟩
  · simp [Value.cells] at hcs
    obtain ⟨rfl, rfl, rfl⟩ := hcs
    exact ⟨none, 0, 0, [], rfl, rfl, .inl rfl⟩
  · simp [Value.cells] at hcs
    obtain ⟨rfl, rfl, rfl⟩ := hcs
    simp only [if_true] at hm
    have each : ∀ i, i < len0 → ∃ x : Ask, ∀ j, j < 8 → w.cell? (a.add (i * 8 + j)) = (askCells x)[j]? := by
      intro i hi
      obtain ⟨cs', h1, h2⟩ := hx i (by omega)
      rw [cellsAsk] at h1
      obtain ⟨_, hlen, hcell⟩ := World.cells?_some h1
      obtain ⟨xs, k, _, _, _, hxl, hf⟩ := DataW.trod_struct Tryd.underlying35 h2
      match xs, hxl, cs', hlen with
      | [z0, z1, z2, z3, z4, z5, z6, z7], _, [c0, c1, c2, c3, c4, c5, c6, c7], _ =>
        have k0 := hf 0 _ rfl
        have k1 := hf 1 _ rfl
        have k2 := hf 2 _ rfl
        have k3 := hf 3 _ rfl
        have k4 := hf 4 _ rfl
        have k5 := hf 5 _ rfl
        have k6 := hf 6 _ rfl
        have k7 := hf 7 _ rfl
        simp [cells3, cellsU8] at k0 k1 k2 k3 k4 k5 k6 k7
        obtain ⟨x1, e1, _, _⟩ := DataW.trod_int Tryd.underlying5 k0
        obtain ⟨x2, e2, _, _⟩ := DataW.trod_int Tryd.underlying3 k1
        obtain ⟨x3, e3, _, _⟩ := DataW.trod_int Tryd.underlying3 k2
        obtain ⟨x4, e4, _, _⟩ := DataW.trod_int Tryd.underlying3 k3
        obtain ⟨x5, e5, _, _⟩ := DataW.trod_int Tryd.underlying3 k4
        obtain ⟨x6, e6, _, _⟩ := DataW.trod_int Tryd.underlying3 k5
        obtain ⟨x7, e7, _, _⟩ := DataW.trod_int Tryd.underlying3 k6
        obtain ⟨x8, e8, _, _⟩ := DataW.trod_int Tryd.underlying3 k7
        simp at e1 e2 e3 e4 e5 e6 e7 e8
        subst e1 e2 e3 e4 e5 e6 e7 e8
        refine ⟨⟨x1, x2, x3, x4, x5, x6, x7, x8⟩, fun j hj => ?_⟩
        have := hcell j hj
        rw [Go.Deep.add_add] at this
        rw [this]
        rfl
    have inh : Inhabited Ask := ⟨az⟩
    obtain ⟨q, hq⟩ := Go.Deep.choose_lt each
    have hnth : ∀ i, i < len0 → anth ((List.range len0).map q) i = q i := fun i hi => by
      unfold anth
      rw [List.getD_eq_getElem?_getD, List.getElem?_map, List.getElem?_range hi]
      rfl
    refine ⟨some a, len0, cap0, (List.range len0).map q, rfl, by simp, .inr ⟨a, rfl, fun i hi => ?_⟩⟩
    have hi' : i < len0 := by simpa using hi
    rw [hnth i hi']
    have e : ∀ j, 0 < j → a.add (i * 8 + j) = ⟨(a.add (i * 8)).block, (a.add (i * 8)).off + j, none⟩ := by
      intro j hj
      unfold Addr.add
      rw [if_neg (by omega)]
      split
      · simp_all
      · simp; omega
    exact ⟨(hq i hi') 0 (by decide), by rw [← e 1 (by decide)]; exact (hq i hi') 1 (by decide), by rw [← e 2 (by decide)]; exact (hq i hi') 2 (by decide), by rw [← e 3 (by decide)]; exact (hq i hi') 3 (by decide), by rw [← e 4 (by decide)]; exact (hq i hi') 4 (by decide), by rw [← e 5 (by decide)]; exact (hq i hi') 5 (by decide), by rw [← e 6 (by decide)]; exact (hq i hi') 6 (by decide), by rw [← e 7 (by decide)]; exact (hq i hi') 7 (by decide)⟩

theorem ser_of {W : World} (h : laidMet Tryd.prog [("gavelhouse/api.ErrBound", Rows.laid_gavelhouse_api_ErrBound), ("gavelhouse/api.ErrShape", Rows.laid_gavelhouse_api_ErrShape), ("gavelhouse/api.ErrKind", Rows.laid_gavelhouse_api_ErrKind), ("gavelhouse/api.ErrState", Rows.laid_gavelhouse_api_ErrState), ("gavelhouse/api.ErrOrder", Rows.laid_gavelhouse_api_ErrOrder)] W) :
    ∃ T, SEr W T := by
  obtain ⟨a1, _, h1, _⟩ := one_sentinel h (g := 3) (by kernel_rfl) (by kernel_rfl)
  obtain ⟨a2, _, h2, _⟩ := one_sentinel h.tail (g := 4) (by kernel_rfl) (by kernel_rfl)
  obtain ⟨a3, _, h3, _⟩ := one_sentinel h.tail.tail (g := 5) (by kernel_rfl) (by kernel_rfl)
  obtain ⟨a10, _, h10, _⟩ := one_sentinel h.tail.tail.tail (g := 0) (by kernel_rfl) (by kernel_rfl)
  obtain ⟨a11, _, h11, _⟩ := one_sentinel h.tail.tail.tail.tail (g := 1) (by kernel_rfl) (by kernel_rfl)
  exact ⟨fun g => if g = 1 then .pointer (some a1) else if g = 2 then .pointer (some a2) else if g = 3 then .pointer (some a3) else if g = 10 then .pointer (some a10) else .pointer (some a11), ⟨h10, h11, h1, h2, h3⟩⟩
end Go.Proofs.YtccjlddikinkiaaDoor
