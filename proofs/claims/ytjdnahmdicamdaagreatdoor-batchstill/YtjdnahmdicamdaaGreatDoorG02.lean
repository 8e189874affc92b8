/- How a slice of lots that came in is opened, and what the listed errors give Check. -/
import Derived.Deep.Slices
import Derived.Carry
import Derived.Test.YtjdnahmdicamdaaGreatDoorG01
namespace Go.Proofs.YtjdnahmdicamdaaGreatDoor
open Go.ChangeShapes Go.WideShapes Go.ChangeAt Go.RowKit

theorem cells110 : Tryz.prog.cellsOf 56 = 5 := by kernel_rfl

set_option maxRecDepth 100000 in
theorem open_lots {H : Type} {enc : TypeId × Value → H} {w : World} {v : Value} {d : DataW H} {p : List MemPlace} (hv : ∃ a len cap, v = .slice a len cap)
    (h : DataW.Trod enc Tryz.prog w 0 (fun _ => true) true 37 v d p) : ∃ a cap l, v = .slice a l.length cap ∧ ArgLots w a l := by
  obtain ⟨a0, len0, cap0, rfl⟩ := hv
  obtain ⟨fuel, hf⟩ := h
  rcases Go.Deep.open_slice Tryz.underlying37 hf with ⟨hcs, _⟩ | ⟨a, len, cap, m, n, D, Pl, hcs, _, hl, _, hm, _, hx⟩
  · simp [Value.cells] at hcs
    obtain ⟨rfl, rfl, rfl⟩ := hcs
    exact ⟨none, 0, [], rfl, .inl rfl⟩
  · simp [Value.cells] at hcs
    obtain ⟨rfl, rfl, rfl⟩ := hcs
    simp only [if_true] at hm
    have each : ∀ i, i < len0 → ∃ x : Cv.Lot, ∀ j, j < 5 → w.cell? (a.add (i * 5 + j)) = (lotCells x)[j]? := by
      intro i hi
      obtain ⟨cs', h1, h2⟩ := hx i (by omega)
      rw [cells110] at h1
      obtain ⟨_, hlen, hcell⟩ := World.cells?_some h1
      obtain ⟨xs, k, _, _, _, hxl, hf⟩ := DataW.trod_struct Tryz.underlying56 h2
      match xs, hxl, cs', hlen with
      | [y0, y1, y2, y3, y4], _, [c0, c1, c2, c3, c4], _ =>
        have g0 := hf 0 _ rfl
        have g1 := hf 1 _ rfl
        have g2 := hf 2 _ rfl
        have g3 := hf 3 _ rfl
        have g4 := hf 4 _ rfl
        simp [cells3] at g0 g1 g2 g3 g4
        obtain ⟨x0, e0, _, _⟩ := DataW.trod_int Tryz.underlying3 g0
        obtain ⟨x1, e1, _, _⟩ := DataW.trod_int Tryz.underlying3 g1
        obtain ⟨x2, e2, _, _⟩ := DataW.trod_int Tryz.underlying3 g2
        obtain ⟨x3, e3, _, _⟩ := DataW.trod_int Tryz.underlying3 g3
        obtain ⟨x4, e4, _, _⟩ := DataW.trod_int Tryz.underlying3 g4
        simp at e0 e1 e2 e3 e4
        subst e0 e1 e2 e3 e4
        refine ⟨⟨x0, x1, x2, x3, x4⟩, fun j hj => ?_⟩
        have := hcell j hj
        rw [Go.Deep.add_add] at this
        rw [this]
        rfl
    have inh : Inhabited Cv.Lot := ⟨Cv.z⟩
    obtain ⟨q, hq⟩ := Go.Deep.choose_lt each
    have hnth : ∀ i, i < len0 → Cv.nth ((List.range len0).map q) i = q i := fun i hi => by
      unfold Cv.nth
      rw [List.getD_eq_getElem?_getD, List.getElem?_map, List.getElem?_range hi]
      rfl
    refine ⟨some a, cap0, (List.range len0).map q, by simp, .inr ⟨a, rfl, fun j u hu => ?_⟩⟩
    have hj : j < len0 * 5 := by
      have := (List.getElem?_eq_some_iff.1 hu).1
      rw [flat_length] at this
      simpa using this
    have hj5 : j / 5 < len0 := by omega
    have := flat_at ((List.range len0).map q) (j / 5) (j % 5) (by simpa using hj5) (by omega)
    rw [show j / 5 * 5 + j % 5 = j by omega, hnth _ hj5, hu] at this
    rw [show j = j / 5 * 5 + j % 5 by omega, hq _ hj5 _ (by omega), ← this]

theorem er_of {W : World} (h : laidMet Tryz.prog [("gavelhouse/api.ErrBound", Rows.laid_gavelhouse_api_ErrBound), ("gavelhouse/api.ErrShape", Rows.laid_gavelhouse_api_ErrShape), ("gavelhouse/api.ErrExist", Rows.laid_gavelhouse_api_ErrExist), ("gavelhouse/api.ErrFull", Rows.laid_gavelhouse_api_ErrFull)] W) :
    ∃ a1 a2 a6 a7, Er W 252 (.pointer (some a1)) (.pointer (some a6)) (.pointer (some a7)) ∧ W.cell? ⟨7, 0, none⟩ = some (.iface 252 (.pointer (some a2))) := by
  obtain ⟨a1, _, h1, _⟩ := one_sentinel h (g := 0) (by kernel_rfl) (by kernel_rfl)
  obtain ⟨a2, _, h2, _⟩ := one_sentinel h.tail (g := 7) (by kernel_rfl) (by kernel_rfl)
  obtain ⟨a6, _, h6, _⟩ := one_sentinel h.tail.tail (g := 4) (by kernel_rfl) (by kernel_rfl)
  obtain ⟨a7, _, h7, _⟩ := one_sentinel h.tail.tail.tail (g := 2) (by kernel_rfl) (by kernel_rfl)
  exact ⟨a1, a2, a6, a7, ⟨h1, h6, h7⟩, h2⟩
end Go.Proofs.YtjdnahmdicamdaaGreatDoor
/- Who gets how much, as functions of lists: levels, what is filled of a list of lots, and that it is fair; no program is spoken of. -/
namespace Go.Proofs.YtjdnahmdicamdaaGreatDoor
namespace Ra
open Cv

def tot : List Lot → Int
  | [] => 0
  | x :: l => x.q + tot l
def Pos (l : List Lot) : Prop := ∀ x ∈ l, 1 ≤ x.q
theorem tot_append : ∀ a b : List Lot, tot (a ++ b) = tot a + tot b
  | [], b => by simp [tot]
  | x :: a, b => by simp [tot, tot_append a b]; omega
theorem tot_perm {a b : List Lot} (h : a.Perm b) : tot a = tot b := by
  induction h with
  | nil => rfl
  | cons x _ ih => simp [tot, ih]
  | swap x y l => simp [tot]; omega
  | trans _ _ h1 h2 => exact h1.trans h2
theorem tot_nonneg : ∀ l : List Lot, Pos l → 0 ≤ tot l
  | [], _ => by simp [tot]
  | x :: l, h => by
    have h1 := h x List.mem_cons_self
    have h2 := tot_nonneg l (fun y hy => h y (List.mem_cons_of_mem _ hy))
    simp only [tot]; omega
theorem tot_filter (f : Lot → Bool) : ∀ l : List Lot, tot (l.filter f) = sumIf f l
  | [] => rfl
  | x :: l => by
    have ih := tot_filter f l
    rw [List.filter_cons]
    simp only [sumIf]
    split
    · simp [tot, ih]
    · simp [ih]
theorem tot_filter_le {f g : Lot → Bool} : ∀ l : List Lot, Pos l → (∀ x ∈ l, f x = true → g x = true) → tot (l.filter f) ≤ tot (l.filter g)
  | [], _, _ => by simp
  | x :: l, h, hfg => by
    have ih := tot_filter_le (f := f) (g := g) l (fun y hy => h y (List.mem_cons_of_mem _ hy)) (fun y hy => hfg y (List.mem_cons_of_mem _ hy))
    have hx := h x List.mem_cons_self
    have hh := hfg x List.mem_cons_self
    rw [List.filter_cons, List.filter_cons]
    by_cases e : f x = true
    · rw [if_pos e, if_pos (hh e)]; simp only [tot]; omega
    · rw [if_neg e]; split
      · simp only [tot]; omega
      · exact ih

/-- what is filled of a list of lots, one behind the other -/
def fill : List Lot → Int → List (Int × Int)
  | [], _ => []
  | x :: l, v => if v = 0 then [] else (x.id, min x.q v) :: fill l (v - min x.q v)
theorem fill_zero : ∀ l : List Lot, fill l 0 = []
  | [] => rfl
  | x :: l => by simp [fill]
theorem fill_append : ∀ (a b : List Lot) (v : Int), Pos a → 0 ≤ v → fill (a ++ b) v = fill a v ++ fill b (v - min (tot a) v)
  | [], b, v, _, hv => by
    have : v - min 0 v = v := by omega
    simp [fill, tot, this]
  | x :: a, b, v, h, hv => by
    have hx := h x List.mem_cons_self
    have ha : Pos a := fun y hy => h y (List.mem_cons_of_mem _ hy)
    have hn := tot_nonneg a ha
    rw [List.cons_append]
    by_cases e : v = 0
    · subst e
      have : (0 : Int) - min (tot (x :: a)) 0 = 0 := by simp only [tot]; omega
      rw [this, fill_zero, fill_zero, fill_zero]; rfl
    · rw [fill, fill, if_neg e, if_neg e, fill_append a b _ ha (by omega), List.cons_append]
      have : v - min x.q v - min (tot a) (v - min x.q v) = v - min (tot (x :: a)) v := by simp only [tot]; omega
      rw [this]
def qs : List (Int × Int) → Int
  | [] => 0
  | x :: l => x.2 + qs l
theorem qs_append : ∀ a b : List (Int × Int), qs (a ++ b) = qs a + qs b
  | [], b => by simp [qs]
  | x :: a, b => by simp [qs, qs_append a b]; omega
theorem fill_sum : ∀ (l : List Lot) (v : Int), Pos l → 0 ≤ v → qs (fill l v) = min (tot l) v
  | [], v, _, hv => by simp [fill, qs, tot]; omega
  | x :: l, v, h, hv => by
    have hx := h x List.mem_cons_self
    have ha : Pos l := fun y hy => h y (List.mem_cons_of_mem _ hy)
    have hn := tot_nonneg l ha
    rw [fill]
    split
    · simp [qs, tot]; omega
    · simp only [qs, tot]
      rw [fill_sum l _ ha (by omega)]
      omega
theorem fill_mem : ∀ (l : List Lot) (v : Int), Pos l → 0 ≤ v → ∀ f ∈ fill l v, 1 ≤ f.2 ∧ ∃ x ∈ l, x.id = f.1
  | [], v, _, _, f, hf => by simp [fill] at hf
  | x :: l, v, h, hv, f, hf => by
    have hx := h x List.mem_cons_self
    have ha : Pos l := fun y hy => h y (List.mem_cons_of_mem _ hy)
    rw [fill] at hf
    split at hf
    · cases hf
    · rcases List.mem_cons.1 hf with rfl | hf
      · exact ⟨by simp only []; omega, x, List.mem_cons_self, rfl⟩
      · obtain ⟨h1, y, hy, e⟩ := fill_mem l _ ha (by omega) f hf
        exact ⟨h1, y, List.mem_cons_of_mem _ hy, e⟩

/-- what a number got of fills -/
def got (id : Int) : List (Int × Int) → Int
  | [] => 0
  | f :: l => (if f.1 = id then f.2 else 0) + got id l
theorem got_append (id : Int) : ∀ a b : List (Int × Int), got id (a ++ b) = got id a + got id b
  | [], b => by simp [got]
  | x :: a, b => by simp [got, got_append id a b]; omega
theorem got_none (id : Int) : ∀ l : List (Int × Int), (∀ f ∈ l, f.1 ≠ id) → got id l = 0
  | [], _ => rfl
  | f :: l, h => by
    have h1 := h f List.mem_cons_self
    have h2 := got_none id l (fun g hg => h g (List.mem_cons_of_mem _ hg))
    simp [got, h1, h2]
def Once (l : List Lot) : Prop := (l.map (·.id)).Nodup
theorem Once.perm {a b : List Lot} (h : Once a) (p : a.Perm b) : Once b := (p.map _).nodup_iff.1 h

theorem got_fill (a : List Lot) (x : Lot) (b : List Lot) (v : Int) (h : Pos (a ++ x :: b)) (hv : 0 ≤ v) (ho : Once (a ++ x :: b)) : got x.id (fill (a ++ x :: b) v) = max 0 (min x.q (v - tot a)) := by
  have ha : Pos a := fun y hy => h y (List.mem_append_left _ hy)
  have hb : Pos b := fun y hy => h y (List.mem_append_right _ (List.mem_cons_of_mem _ hy))
  have hx := h x (List.mem_append_right _ List.mem_cons_self)
  have hn := tot_nonneg a ha
  unfold Once at ho
  rw [List.map_append, List.map_cons, List.nodup_append] at ho
  obtain ⟨_, ho2, ho3⟩ := ho
  obtain ⟨ho4, _⟩ := List.nodup_cons.1 ho2
  rw [fill_append a _ v ha hv, got_append, got_none x.id (fill a v)]
  · rw [fill]
    have hz : ∀ u, 0 ≤ u → got x.id (fill b u) = 0 := fun u hu => got_none _ _ fun f hf e => by
      obtain ⟨_, y, hy, e2⟩ := fill_mem b u hb hu f hf
      exact ho4 (List.mem_map.2 ⟨y, hy, e2.trans e⟩)
    split
    · simp only [got]; omega
    · simp only [got, if_true]
      rw [hz _ (by omega)]
      omega
  · intro f hf e
    obtain ⟨_, y, hy, e2⟩ := fill_mem a v ha hv f hf
    exact ho3 _ (List.mem_map.2 ⟨y, hy, rfl⟩) _ List.mem_cons_self (e2.trans e)
theorem got_out (s : List Lot) (id v : Int) (h : Pos s) (hv : 0 ≤ v) (hn : ∀ x ∈ s, x.id ≠ id) : got id (fill s v) = 0 :=
  got_none _ _ fun f hf e => by
    obtain ⟨_, y, hy, e2⟩ := fill_mem s v h hv f hf
    exact hn y hy (e2.trans e)

/-- what all lots of a list got -/
def gots (F : List (Int × Int)) : List Lot → Int
  | [] => 0
  | x :: l => got x.id F + gots F l
theorem gots_none (id q : Int) (F : List (Int × Int)) : ∀ l : List Lot, (∀ x ∈ l, x.id ≠ id) → gots ((id, q) :: F) l = gots F l
  | [], _ => rfl
  | x :: l, h => by
    have h1 : ¬ id = x.id := fun e => h x List.mem_cons_self e.symm
    simp only [gots, got]
    rw [if_neg h1, gots_none id q F l (fun y hy => h y (List.mem_cons_of_mem _ hy))]; omega
theorem gots_one (id q : Int) (F : List (Int × Int)) : ∀ l : List Lot, Once l → (∃ x ∈ l, x.id = id) → gots ((id, q) :: F) l = q + gots F l
  | [], _, h => by obtain ⟨x, hx, _⟩ := h; cases hx
  | x :: l, ho, h => by
    obtain ⟨ho1, ho2⟩ := List.nodup_cons.1 ho
    by_cases e : id = x.id
    · simp only [gots, got]
      rw [if_pos e, gots_none id q F l (fun y hy e2 => ho1 (List.mem_map.2 ⟨y, hy, e2.trans e⟩))]; omega
    · simp only [gots, got]
      rw [if_neg e, gots_one id q F l ho2 ?_]
      · omega
      · obtain ⟨y, hy, e2⟩ := h
        rcases List.mem_cons.1 hy with rfl | hy
        · exact absurd e2.symm e
        · exact ⟨y, hy, e2⟩
theorem gots_sum (l : List Lot) (ho : Once l) : ∀ F : List (Int × Int), (∀ f ∈ F, ∃ x ∈ l, x.id = f.1) → gots F l = qs F
  | [], _ => by
    simp only [qs]
    clear ho
    induction l with
    | nil => rfl
    | cons x l ih => simp [gots, got, ih]
  | f :: F, h => by
    rw [show f = (f.1, f.2) from rfl, gots_one f.1 f.2 F l ho (h f List.mem_cons_self), gots_sum l ho F (fun g hg => h g (List.mem_cons_of_mem _ hg))]
    rfl

/-! levels -/
def lv (l : List Lot) (sd p : Int) : List Lot := l.filter fun x => x.sd == sd && x.pr == p
/-- the order in which a level is filled -/
def arr (sh : List Lot → List Lot) (x : List Lot) (v : Int) : List Lot := if v < tot x then sh x else x
/-- the order in which a side is filled -/
def row (sh : List Lot → List Lot) (l : List Lot) (sd : Int) : List Int → Int → List Lot
  | [], _ => []
  | p :: ps, v => arr sh (lv l sd p) v ++ row sh l sd ps (v - min (tot (lv l sd p)) v)
def Mix (sh : List Lot → List Lot) : Prop := ∀ l, (sh l).Perm l
theorem arr_perm {sh : List Lot → List Lot} (hs : Mix sh) (x : List Lot) (v : Int) : (arr sh x v).Perm x := by
  unfold arr; split
  · exact hs x
  · exact List.Perm.refl _
theorem lv_pos {l : List Lot} (h : Pos l) (sd p : Int) : Pos (lv l sd p) := fun x hx => h x (List.mem_filter.1 hx).1
theorem arr_pos {sh : List Lot → List Lot} (hs : Mix sh) {x : List Lot} (h : Pos x) (v : Int) : Pos (arr sh x v) := fun y hy => h y ((arr_perm hs x v).mem_iff.1 hy)
theorem tot_arr {sh : List Lot → List Lot} (hs : Mix sh) (x : List Lot) (v : Int) : tot (arr sh x v) = tot x := tot_perm (arr_perm hs x v)
theorem row_perm {sh : List Lot → List Lot} (hs : Mix sh) (l : List Lot) (sd : Int) : ∀ (ps : List Int) (v : Int), (row sh l sd ps v).Perm (ps.flatMap (lv l sd))
  | [], _ => List.Perm.refl _
  | p :: ps, v => by
    rw [List.flatMap_cons]
    exact (arr_perm hs _ _).append (row_perm hs l sd ps _)
/-- what a side is filled with -/
def sf (sh : List Lot → List Lot) (l : List Lot) (sd : Int) (ps : List Int) (v : Int) : List (Int × Int) := fill (row sh l sd ps v) v
theorem sf_cons {sh : List Lot → List Lot} (hs : Mix sh) {l : List Lot} (h : Pos l) (sd p : Int) (ps : List Int) (v : Int) (hv : 0 ≤ v) :
    sf sh l sd (p :: ps) v = fill (arr sh (lv l sd p) v) v ++ sf sh l sd ps (v - min (tot (lv l sd p)) v) := by
  unfold sf
  rw [row, fill_append _ _ _ (arr_pos hs (lv_pos h sd p) v) hv, tot_arr hs]
theorem sf_zero (sh : List Lot → List Lot) (l : List Lot) (sd : Int) (ps : List Int) : sf sh l sd ps 0 = [] := fill_zero _
theorem sf_empty {sh : List Lot → List Lot} (hs : Mix sh) {l : List Lot} (h : Pos l) (sd p : Int) (ps : List Int) (v : Int) (hv : 0 ≤ v) (he : lv l sd p = []) : sf sh l sd (p :: ps) v = sf sh l sd ps v := by
  rw [sf_cons hs h sd p ps v hv, he]
  have e1 : arr sh [] v = [] := by unfold arr; rw [if_neg (by simp [tot]; omega)]
  have e2 : v - min (tot []) v = v := by simp [tot]; omega
  rw [e1, e2]; rfl
theorem sf_filter {sh : List Lot → List Lot} (hs : Mix sh) {l : List Lot} (h : Pos l) (sd : Int) : ∀ (ps : List Int) (v : Int), 0 ≤ v → sf sh l sd (ps.filter fun p => !(lv l sd p).isEmpty) v = sf sh l sd ps v
  | [], _, _ => rfl
  | p :: ps, v, hv => by
    rw [List.filter_cons]
    split
    · have h2 := tot_nonneg _ (lv_pos h sd p)
      rw [sf_cons hs h sd p _ v hv, sf_cons hs h sd p _ v hv, sf_filter hs h sd ps _ (by omega)]
    · rename_i e
      rw [sf_empty hs h sd p ps v hv (by simpa using e), sf_filter hs h sd ps v hv]
/-- where all fits, nothing is drawn -/
theorem row_fits (sh : List Lot → List Lot) {l : List Lot} (h : Pos l) (sd : Int) : ∀ (ps : List Int) (v : Int), tot (ps.flatMap (lv l sd)) ≤ v → row sh l sd ps v = ps.flatMap (lv l sd)
  | [], _, _ => rfl
  | p :: ps, v, hv => by
    rw [List.flatMap_cons] at hv ⊢
    rw [tot_append] at hv
    have h2 := tot_nonneg _ (lv_pos h sd p)
    have h3 : 0 ≤ tot (ps.flatMap (lv l sd)) := tot_nonneg _ fun x hx => by
      obtain ⟨q, _, hq⟩ := List.mem_flatMap.1 hx
      exact lv_pos h sd q x hq
    rw [row, row_fits sh h sd ps _ (by omega)]
    unfold arr
    rw [if_neg (by omega)]

/-! who is worse than a price -/
def el (sd price : Int) (x : Lot) : Bool := x.sd == sd && !better sd price x.pr
/-- prices from the best one on -/
def Falls (sd : Int) (ps : List Int) : Prop := ps.Pairwise fun p q => better sd p q = true
theorem better_irrefl (sd p : Int) : better sd p p = false := by unfold better; split <;> simp
theorem filter_or_perm {α : Type} (f g : α → Bool) : ∀ l : List α, (∀ x ∈ l, f x = true → g x = false) → (l.filter fun x => f x || g x).Perm (l.filter f ++ l.filter g)
  | [], _ => List.Perm.refl _
  | x :: l, h => by
    have ih := filter_or_perm f g l (fun y hy => h y (List.mem_cons_of_mem _ hy))
    have hx := h x List.mem_cons_self
    rw [List.filter_cons, List.filter_cons, List.filter_cons]
    cases hf : f x
    · cases hg : g x
      · simpa using ih
      · simpa using (ih.cons x).trans List.perm_middle.symm
    · simpa [hx hf] using ih.cons x
theorem levels_perm (l : List Lot) (sd : Int) : ∀ ps : List Int, ps.Nodup → (ps.flatMap (lv l sd)).Perm (l.filter fun x => x.sd == sd && ps.contains x.pr)
  | [], _ => by simp
  | p :: ps, h => by
    obtain ⟨h1, h2⟩ := List.nodup_cons.1 h
    rw [List.flatMap_cons]
    have ih := levels_perm l sd ps h2
    have hp := filter_or_perm (fun x : Lot => x.sd == sd && x.pr == p) (fun x : Lot => x.sd == sd && ps.contains x.pr) l fun x _ hx => by
      simp only [Bool.and_eq_true, beq_iff_eq] at hx
      rw [hx.2]; simp [h1]
    have he : (fun x : Lot => x.sd == sd && (p :: ps).contains x.pr) = fun x : Lot => (x.sd == sd && x.pr == p) || (x.sd == sd && ps.contains x.pr) := by
      funext x
      rw [List.contains_cons]
      cases x.sd == sd <;> simp
    rw [he]
    exact ((List.Perm.refl _).append ih).trans hp.symm
theorem row_order {sh : List Lot → List Lot} (hs : Mix sh) (l : List Lot) (sd : Int) : ∀ (ps : List Int) (v : Int), Falls sd ps → (row sh l sd ps v).Pairwise fun x y => better sd y.pr x.pr = false
  | [], _, _ => List.Pairwise.nil
  | p :: ps, v, h => by
    obtain ⟨h1, h2⟩ := List.pairwise_cons.1 h
    have hp : ∀ x ∈ arr sh (lv l sd p) v, x.pr = p := fun x hx => by
      have := (List.mem_filter.1 ((arr_perm hs _ _).mem_iff.1 hx)).2
      simp only [Bool.and_eq_true, beq_iff_eq] at this
      exact this.2
    rw [row]
    refine List.pairwise_append.2 ⟨?_, row_order hs l sd ps _ h2, fun x hx y hy => ?_⟩
    · refine List.Pairwise.imp_of_mem (R := fun _ _ => True) (fun hx hy _ => ?_) (List.pairwise_of_forall (fun _ _ => trivial))
      rw [hp _ hx, hp _ hy]; exact better_irrefl sd p
    · have hq := (row_perm hs l sd ps _).mem_iff.1 hy
      obtain ⟨q, hq1, hq2⟩ := List.mem_flatMap.1 hq
      have := (List.mem_filter.1 hq2).2
      simp only [Bool.and_eq_true, beq_iff_eq] at this
      rw [hp x hx, this.2]
      have hb := h1 q hq1
      unfold better at hb ⊢
      split at hb <;> simp_all <;> omega

/-! the three facts: within, whole ahead, one level alone -/
theorem got_within {s : List Lot} {v : Int} (h : Pos s) (hv : 0 ≤ v) (ho : Once s) {x : Lot} (hx : x ∈ s) : 0 ≤ got x.id (fill s v) ∧ got x.id (fill s v) ≤ x.q := by
  obtain ⟨a, b, rfl⟩ := List.append_of_mem hx
  have hq := h x hx
  rw [got_fill a x b v h hv ho]; omega
theorem got_ahead {sd : Int} {s : List Lot} {v : Int} (h : Pos s) (hv : 0 ≤ v) (ho : Once s) (hp : s.Pairwise fun x y => better sd y.pr x.pr = false) {x y : Lot} (hx : x ∈ s) (hy : y ∈ s) (hb : better sd y.pr x.pr = true) (hg : 0 < got x.id (fill s v)) : got y.id (fill s v) = y.q := by
  obtain ⟨a, b, rfl⟩ := List.append_of_mem hx
  rw [got_fill a x b v h hv ho] at hg
  obtain ⟨_, hp2, hp3⟩ := List.pairwise_append.1 hp
  have hya : y ∈ a := by
    rcases List.mem_append.1 hy with hy | hy
    · exact hy
    · rcases List.mem_cons.1 hy with rfl | hy
      · rw [better_irrefl] at hb; cases hb
      · have := (List.pairwise_cons.1 hp2).1 y hy
        rw [this] at hb; cases hb
  obtain ⟨a1, a2, rfl⟩ := List.append_of_mem hya
  have e : a1 ++ y :: a2 ++ x :: b = a1 ++ y :: (a2 ++ x :: b) := by simp
  have h2 : 0 ≤ tot a2 := tot_nonneg _ fun z hz => h z (by simp [hz])
  have hq := h y hy
  rw [tot_append] at hg
  simp only [tot] at hg
  rw [e] at h ho ⊢
  rw [got_fill a1 y _ v h hv ho]
  omega
theorem got_whole {sd : Int} {s : List Lot} {v : Int} (h : Pos s) (hv : 0 ≤ v) (ho : Once s) (hp : s.Pairwise fun x y => better sd y.pr x.pr = false) {x : Lot} (hx : x ∈ s) (hb : tot (s.filter fun y => !better sd x.pr y.pr) ≤ v) : got x.id (fill s v) = x.q := by
  obtain ⟨a, b, rfl⟩ := List.append_of_mem hx
  rw [got_fill a x b v h hv ho]
  obtain ⟨_, hp2, hp3⟩ := List.pairwise_append.1 hp
  rw [List.filter_append, List.filter_cons, if_pos (by rw [better_irrefl]; rfl), tot_append] at hb
  have ha : a.filter (fun y => !better sd x.pr y.pr) = a := List.filter_eq_self.2 fun y hy => by rw [hp3 y hy x List.mem_cons_self]; rfl
  rw [ha] at hb
  have h2 : 0 ≤ tot (b.filter fun y => !better sd x.pr y.pr) := tot_nonneg _ fun z hz => h z (by simp [(List.mem_filter.1 hz).1])
  have hq := h x hx
  simp only [tot] at hb
  omega
theorem got_behind {sd : Int} {s : List Lot} {v : Int} (h : Pos s) (hv : 0 ≤ v) (ho : Once s) (hp : s.Pairwise fun x y => better sd y.pr x.pr = false) {x : Lot} (hx : x ∈ s) (hb : v ≤ tot (s.filter fun y => better sd y.pr x.pr)) : got x.id (fill s v) = 0 := by
  obtain ⟨a, b, rfl⟩ := List.append_of_mem hx
  rw [got_fill a x b v h hv ho]
  obtain ⟨_, hp2, hp3⟩ := List.pairwise_append.1 hp
  rw [List.filter_append, List.filter_cons, if_neg (by rw [better_irrefl]; simp), tot_append] at hb
  have hbn : b.filter (fun y => better sd y.pr x.pr) = [] := List.filter_eq_nil_iff.2 fun y hy => by rw [(List.pairwise_cons.1 hp2).1 y hy]; simp
  rw [hbn] at hb
  have ha : tot (a.filter fun y => better sd y.pr x.pr) ≤ tot (a.filter fun _ => true) := tot_filter_le a (fun y hy => h y (List.mem_append_left _ hy)) (fun _ _ _ => rfl)
  rw [show a.filter (fun _ => true) = a from List.filter_eq_self.2 fun _ _ => rfl] at ha
  have hq := h x hx
  simp only [tot] at hb
  omega
theorem better_total (sd p q : Int) (h : p ≠ q) : better sd p q = true ∨ better sd q p = true := by
  unfold better; split <;> simp <;> omega
/-- two orders of the same lots: those that get otherwise are of one level -/
theorem one_level {sd : Int} {s t : List Lot} {v : Int} (hst : s.Perm t) (h : Pos s) (hv : 0 ≤ v) (ho : Once s) (hp : s.Pairwise fun x y => better sd y.pr x.pr = false) (hq : t.Pairwise fun x y => better sd y.pr x.pr = false)
    {x y : Lot} (hx : x ∈ s) (hy : y ∈ s) (dx : got x.id (fill s v) ≠ got x.id (fill t v)) (dy : got y.id (fill s v) ≠ got y.id (fill t v)) : x.pr = y.pr := by
  have ht : Pos t := fun z hz => h z (hst.mem_iff.2 hz)
  have hot : Once t := ho.perm hst
  have key : ∀ z ∈ s, got z.id (fill s v) ≠ got z.id (fill t v) → tot (s.filter fun u => better sd u.pr z.pr) < v ∧ v < tot (s.filter fun u => !better sd z.pr u.pr) := by
    intro z hz dz
    refine ⟨Int.not_le.1 fun e => dz ?_, Int.not_le.1 fun e => dz ?_⟩
    · rw [got_behind h hv ho hp hz e, got_behind ht hv hot hq (hst.mem_iff.1 hz) (by rw [← tot_perm (hst.filter _)]; exact e)]
    · rw [got_whole h hv ho hp hz e, got_whole ht hv hot hq (hst.mem_iff.1 hz) (by rw [← tot_perm (hst.filter _)]; exact e)]
  have step : ∀ p q : Int, better sd p q = true → tot (s.filter fun u => !better sd p u.pr) ≤ tot (s.filter fun u => better sd u.pr q) := fun p q hb => tot_filter_le s h fun u _ hu => by
    unfold better at hb hu ⊢; split at hb <;> simp_all <;> omega
  by_cases e : x.pr = y.pr
  · exact e
  · have kx := key x hx dx
    have ky := key y hy dy
    rcases better_total sd _ _ e with hb | hb
    · have := step _ _ hb; omega
    · have := step _ _ hb; omega
end Ra
end Go.Proofs.YtjdnahmdicamdaaGreatDoor
/- A book as a list of lots: what is added, cancelled and taken of, and its levels; no program is spoken of. -/
namespace Go.Proofs.YtjdnahmdicamdaaGreatDoor
namespace Bk
open Cv Ra

/-- where the lot of an ID stands; the length: nowhere -/
def pos (l : List Lot) (id : Int) : Nat := l.findIdx fun x => x.id == id
def del (l : List Lot) (k : Nat) : List Lot := l.take k ++ l.drop (k + 1)
def put (l : List Lot) (k : Nat) (x : Lot) : List Lot := l.take k ++ x :: l.drop (k + 1)
def less (x : Lot) (q : Int) : Lot := ⟨x.id, x.ow, x.sd, x.pr, x.q - q⟩
structure Good (l : List Lot) : Prop where
  oks : Oks l
  len : l.length ≤ 60
  once : Once l
theorem good_nil : Good [] := ⟨fun _ h => absurd h List.not_mem_nil, Nat.zero_le _, List.nodup_nil⟩

theorem pos_le (l : List Lot) (id : Int) : pos l id ≤ l.length := List.findIdx_le_length
theorem pos_has {l : List Lot} {id : Int} : has l id = true ↔ pos l id < l.length := by
  unfold has pos
  rw [List.findIdx_lt_length, List.any_eq_true]
theorem pos_hasnt {l : List Lot} {id : Int} : has l id = false ↔ pos l id = l.length := by
  have h1 := pos_has (l := l) (id := id)
  have h2 := pos_le l id
  cases h : has l id
  · simp only [h] at h1; simp at h1; simp; omega
  · have := h1.1 h; simp; omega
theorem nth_get {l : List Lot} {i : Nat} (h : i < l.length) : nth l i = l[i] := by
  unfold nth; rw [List.getD_eq_getElem?_getD, List.getElem?_eq_getElem h]; rfl
theorem pos_id {l : List Lot} {id : Int} (h : pos l id < l.length) : (nth l (pos l id)).id = id := by
  rw [nth_get h]
  have := List.findIdx_getElem (p := fun x : Lot => x.id == id) (xs := l) (w := h)
  exact eq_of_beq this
theorem split_at {l : List Lot} {k : Nat} (h : k < l.length) : l = l.take k ++ nth l k :: l.drop (k + 1) := by
  rw [nth_get h, List.getElem_cons_drop, List.take_append_drop]
theorem del_length {l : List Lot} {k : Nat} (h : k < l.length) : (del l k).length = l.length - 1 := by
  unfold del; rw [List.length_append, List.length_take, List.length_drop]; omega
theorem put_length {l : List Lot} {k : Nat} (h : k < l.length) (x : Lot) : (put l k x).length = l.length := by
  unfold put; rw [List.length_append, List.length_cons, List.length_take, List.length_drop]; omega
theorem mem_del {l : List Lot} {k : Nat} {x : Lot} (h : x ∈ del l k) : x ∈ l := by
  rcases List.mem_append.1 h with h | h
  · exact List.mem_of_mem_take h
  · exact List.mem_of_mem_drop h
theorem good_del {l : List Lot} (h : Good l) {k : Nat} (hk : k < l.length) : Good (del l k) := by
  refine ⟨fun x hx => h.oks x (mem_del hx), by rw [del_length hk]; have := h.len; omega, ?_⟩
  have ho := h.once
  unfold Once at ho ⊢
  refine List.Nodup.sublist ?_ ho
  refine List.Sublist.map _ ?_
  have e := split_at hk
  exact Eq.subst (motive := fun m => (del l k).Sublist m) e.symm (List.Sublist.append (List.Sublist.refl _) (List.sublist_cons_self _ _))
theorem good_put {l : List Lot} (h : Good l) {k : Nat} (hk : k < l.length) {x : Lot} (hx : ok x = true) (he : x.id = (nth l k).id) : Good (put l k x) := by
  refine ⟨fun y hy => ?_, by rw [put_length hk]; exact h.len, ?_⟩
  · rcases List.mem_append.1 hy with hy | hy
    · exact h.oks y (List.mem_of_mem_take hy)
    · rcases List.mem_cons.1 hy with rfl | hy
      · exact hx
      · exact h.oks y (List.mem_of_mem_drop hy)
  · have ho := h.once
    unfold Once at ho ⊢
    have e : (put l k x).map (·.id) = l.map (·.id) := by
      have e := split_at hk
      have e2 : l.map (·.id) = (l.take k ++ nth l k :: l.drop (k + 1)).map (·.id) := congrArg _ e
      rw [e2]
      simp [put, he]
    rw [e]; exact ho
theorem good_add {l : List Lot} (h : Good l) {x : Lot} (hx : ok x = true) (hn : has l x.id = false) (hl : l.length < 60) : Good (l ++ [x]) := by
  refine ⟨fun y hy => ?_, by simp; omega, ?_⟩
  · rcases List.mem_append.1 hy with hy | hy
    · exact h.oks y hy
    · rw [List.mem_singleton.1 hy]; exact hx
  · have ho := h.once
    unfold Once at ho ⊢
    rw [List.map_append, List.nodup_append]
    refine ⟨ho, by simp, fun a ha b hb => ?_⟩
    obtain ⟨y, hy, rfl⟩ := List.mem_map.1 ha
    obtain rfl : b = x.id := by simpa using hb
    intro e
    have : has l x.id = true := List.any_eq_true.2 ⟨y, hy, by simpa using e⟩
    rw [hn] at this; cases this
theorem tot_del {l : List Lot} {k : Nat} (hk : k < l.length) : tot (del l k) = tot l - (nth l k).q := by
  have e : tot l = tot (l.take k ++ nth l k :: l.drop (k + 1)) := congrArg _ (split_at hk)
  rw [e]
  simp only [del, tot_append, tot]; omega
theorem tot_put {l : List Lot} {k : Nat} (hk : k < l.length) (x : Lot) : tot (put l k x) = tot l - (nth l k).q + x.q := by
  have e : tot l = tot (l.take k ++ nth l k :: l.drop (k + 1)) := congrArg _ (split_at hk)
  rw [e]
  simp only [put, tot_append, tot]; omega
theorem tot_bound {l : List Lot} (h : Oks l) : 0 ≤ tot l ∧ tot l ≤ 1000 * l.length := by
  have := sumIf_bounds (fun _ => true) l h
  rw [← tot_filter, List.filter_eq_self.2 (fun _ _ => rfl)] at this
  exact this
theorem ok_less {x : Lot} {q : Int} (h : ok x = true) (h1 : 1 ≤ q) (h2 : q < x.q) : ok (less x q) = true := by
  have := ok_bounds h
  simp only [ok, Wi.withinB, less, Bool.and_eq_true]
  refine ⟨⟨⟨⟨⟨?_, ?_⟩, ?_, ?_⟩, ?_, ?_⟩, ?_, ?_⟩, ?_, ?_⟩ <;> exact decide_eq_true (by omega)

/-- what an addition answers: 0, or one of three errors by a number of ours -/
def addC (l : List Lot) (x : Lot) : Nat := if ok x = true then if has l x.id = true then 2 else if 60 ≤ l.length then 3 else 0 else 1
def addL (l : List Lot) (x : Lot) : List Lot := if addC l x = 0 then l ++ [x] else l
def canC (l : List Lot) (id : Int) : Nat := if has l id = true then 0 else 4
def canL (l : List Lot) (id : Int) : List Lot := if canC l id = 0 then del l (pos l id) else l
def canX (l : List Lot) (id : Int) : Lot := if canC l id = 0 then nth l (pos l id) else z
def takC (l : List Lot) (id q : Int) : Nat := if has l id = true then if Wi.withinB q 1 (nth l (pos l id)).q = true then 0 else 1 else 4
def takL (l : List Lot) (id q : Int) : List Lot := if takC l id q = 0 then if q = (nth l (pos l id)).q then del l (pos l id) else put l (pos l id) (less (nth l (pos l id)) q) else l

theorem add_ok {l : List Lot} {x : Lot} (h : addC l x = 0) : ok x = true ∧ has l x.id = false ∧ l.length < 60 := by
  unfold addC at h
  by_cases h1 : ok x = true
  · rw [if_pos h1] at h
    by_cases h2 : has l x.id = true
    · rw [if_pos h2] at h; cases h
    · rw [if_neg h2] at h
      by_cases h3 : 60 ≤ l.length
      · rw [if_pos h3] at h; cases h
      · exact ⟨h1, by simpa using h2, by omega⟩
  · rw [if_neg h1] at h; cases h
theorem good_addL {l : List Lot} (h : Good l) (x : Lot) : Good (addL l x) := by
  unfold addL
  by_cases h0 : addC l x = 0
  · rw [if_pos h0]
    obtain ⟨h1, h2, h3⟩ := add_ok h0
    exact good_add h h1 h2 h3
  · rw [if_neg h0]; exact h
theorem can_ok {l : List Lot} {id : Int} (h : canC l id = 0) : pos l id < l.length := by
  unfold canC at h
  by_cases h1 : has l id = true
  · exact pos_has.1 h1
  · rw [if_neg h1] at h; cases h
theorem good_canL {l : List Lot} (h : Good l) (id : Int) : Good (canL l id) := by
  unfold canL
  by_cases h0 : canC l id = 0
  · rw [if_pos h0]; exact good_del h (can_ok h0)
  · rw [if_neg h0]; exact h
theorem tak_ok {l : List Lot} {id q : Int} (h : takC l id q = 0) : pos l id < l.length ∧ 1 ≤ q ∧ q ≤ (nth l (pos l id)).q := by
  unfold takC at h
  by_cases h1 : has l id = true
  · rw [if_pos h1] at h
    by_cases h2 : Wi.withinB q 1 (nth l (pos l id)).q = true
    · refine ⟨pos_has.1 h1, ?_⟩
      simpa [Wi.withinB] using h2
    · rw [if_neg h2] at h; cases h
  · rw [if_neg h1] at h; cases h
theorem good_takL {l : List Lot} (h : Good l) (id q : Int) : Good (takL l id q) := by
  unfold takL
  by_cases h0 : takC l id q = 0
  · rw [if_pos h0]
    obtain ⟨h1, h2, h3⟩ := tak_ok h0
    by_cases h4 : q = (nth l (pos l id)).q
    · rw [if_pos h4]; exact good_del h h1
    · rw [if_neg h4]; exact good_put h h1 (ok_less (h.oks _ (nth_mem h1)) h2 (by omega)) rfl
  · rw [if_neg h0]; exact h
theorem tot_addL (l : List Lot) (x : Lot) : tot (addL l x) = tot l + if addC l x = 0 then x.q else 0 := by
  unfold addL
  by_cases h0 : addC l x = 0
  · rw [if_pos h0, if_pos h0, tot_append]; simp [tot]
  · rw [if_neg h0, if_neg h0]; omega
theorem tot_canL (l : List Lot) (id : Int) : tot (canL l id) + (if canC l id = 0 then (canX l id).q else 0) = tot l := by
  unfold canL canX
  by_cases h0 : canC l id = 0
  · rw [if_pos h0, if_pos h0, if_pos h0, tot_del (can_ok h0)]; omega
  · rw [if_neg h0, if_neg h0]; omega
theorem tot_takL (l : List Lot) (id q : Int) : tot (takL l id q) + (if takC l id q = 0 then q else 0) = tot l := by
  unfold takL
  by_cases h0 : takC l id q = 0
  · rw [if_pos h0, if_pos h0]
    obtain ⟨h1, h2, h3⟩ := tak_ok h0
    by_cases h4 : q = (nth l (pos l id)).q
    · rw [if_pos h4, tot_del h1]; omega
    · rw [if_neg h4, tot_put h1]; simp only [less]; omega
  · rw [if_neg h0, if_neg h0]; omega

/-- all prices, the best one of a side first -/
def pj (sd : Int) (j : Nat) : Int := if sd = 0 then 1000 - (j : Int) else 1 + (j : Int)
def all (sd : Int) : List Int := (List.range 1000).map (pj sd)
theorem falls_all (sd : Int) : Falls sd (all sd) := by
  refine List.pairwise_map.2 (List.pairwise_lt_range.imp fun {a b} h => ?_)
  unfold pj better
  split <;> simp <;> omega
theorem mem_all {sd p : Int} : p ∈ all sd ↔ 1 ≤ p ∧ p ≤ 1000 := by
  unfold all pj
  by_cases hs : sd = 0
  · simp only [hs, if_true, List.mem_map, List.mem_range]
    constructor
    · rintro ⟨j, hj, rfl⟩; omega
    · rintro ⟨h3, h4⟩; exact ⟨(1000 - p).toNat, by omega, by omega⟩
  · simp only [hs, if_false, List.mem_map, List.mem_range]
    constructor
    · rintro ⟨j, hj, rfl⟩; omega
    · rintro ⟨h3, h4⟩; exact ⟨(p - 1).toNat, by omega, by omega⟩
/-- the prices of a side's lots, the best one first -/
def prs (l : List Lot) (sd : Int) : List Int := (all sd).filter fun p => !(lv l sd p).isEmpty
theorem falls_prs (l : List Lot) (sd : Int) : Falls sd (prs l sd) := (falls_all sd).filter _
theorem nodup_prs (l : List Lot) (sd : Int) : (prs l sd).Nodup := (falls_prs l sd).imp fun {a b} h e => by
  rw [e, better_irrefl] at h; cases h
theorem mem_lv {l : List Lot} {sd p : Int} (ho : Oks l) (h : lv l sd p ≠ []) : 1 ≤ p ∧ p ≤ 1000 := by
  obtain ⟨x, hx⟩ := List.exists_mem_of_ne_nil _ h
  obtain ⟨hx1, hx2⟩ := List.mem_filter.1 hx
  simp only [Bool.and_eq_true, beq_iff_eq] at hx2
  have := (ok_bounds (ho x hx1)).2.2.2.1
  rw [← hx2.2]
  exact this
theorem mem_prs {l : List Lot} {sd p : Int} (ho : Oks l) : p ∈ prs l sd ↔ lv l sd p ≠ [] := by
  unfold prs
  rw [List.mem_filter, mem_all]
  constructor
  · rintro ⟨_, hne⟩; simpa using hne
  · intro h; exact ⟨mem_lv ho h, by simpa using h⟩
theorem prs_up (l : List Lot) (sd : Int) : (if sd = 0 then (prs l sd).reverse else prs l sd).Pairwise (· < ·) := by
  have h := falls_prs l sd
  unfold Falls at h
  split
  · rename_i e
    subst e
    rw [List.pairwise_reverse]
    exact h.imp fun h => by simpa [better] using h
  · rename_i e
    exact h.imp fun h => by simpa [better, e] using h

/-- a level: price, quantity, how many -/
structure Lev where
  pr : Int
  q : Int
  m : Int
def lev (l : List Lot) (sd p : Int) : Lev := ⟨p, tot (lv l sd p), (lv l sd p).length⟩
def levs (l : List Lot) (sd : Int) : List Lev := (prs l sd).map (lev l sd)
def lq : List Lev → Int
  | [] => 0
  | x :: l => x.q + lq l
def lm : List Lev → Int
  | [] => 0
  | x :: l => x.m + lm l
theorem lq_append : ∀ a b : List Lev, lq (a ++ b) = lq a + lq b
  | [], b => by simp [lq]
  | x :: a, b => by simp [lq, lq_append a b]; omega
theorem lm_append : ∀ a b : List Lev, lm (a ++ b) = lm a + lm b
  | [], b => by simp [lm]
  | x :: a, b => by simp [lm, lm_append a b]; omega
theorem lq_levs (l : List Lot) (sd : Int) : ∀ ps : List Int, lq (ps.map (lev l sd)) = tot (ps.flatMap (lv l sd))
  | [] => rfl
  | p :: ps => by simp [lq, lev, tot_append, lq_levs l sd ps]
theorem lm_levs (l : List Lot) (sd : Int) : ∀ ps : List Int, lm (ps.map (lev l sd)) = (ps.flatMap (lv l sd)).length
  | [] => rfl
  | p :: ps => by simp [lm, lev, lm_levs l sd ps]
theorem prs_perm {l : List Lot} (ho : Oks l) (sd : Int) : ((prs l sd).flatMap (lv l sd)).Perm (l.filter fun x => x.sd == sd) := by
  refine (levels_perm l sd _ (nodup_prs l sd)).trans ?_
  rw [List.filter_congr (q := fun x => x.sd == sd) fun x hx => ?_]
  cases hs : x.sd == sd
  · rfl
  · rw [Bool.true_and, List.contains_iff_mem, mem_prs ho]
    intro e
    have : x ∈ lv l sd x.pr := List.mem_filter.2 ⟨hx, by simp [hs]⟩
    rw [e] at this; cases this
theorem lq_side {l : List Lot} (ho : Oks l) (sd : Int) : lq (levs l sd) = tot (l.filter fun x => x.sd == sd) := by
  unfold levs; rw [lq_levs, tot_perm (prs_perm ho sd)]
theorem lm_side {l : List Lot} (ho : Oks l) (sd : Int) : lm (levs l sd) = (l.filter fun x => x.sd == sd).length := by
  unfold levs; rw [lm_levs, (prs_perm ho sd).length_eq]
theorem sides_perm {l : List Lot} (ho : Oks l) : (l.filter (fun x => x.sd == 0) ++ l.filter (fun x => x.sd == 1)).Perm l := by
  refine (filter_or_perm _ _ l fun x _ h => ?_).symm.trans ?_
  · have : x.sd = 0 := by simpa using h
    simp [this]
  · rw [List.filter_eq_self.2 fun x hx => ?_]
    have := (ok_bounds (ho x hx)).2.2.1
    simp; omega
theorem lq_both {l : List Lot} (ho : Oks l) : lq (levs l 0) + lq (levs l 1) = tot l := by
  rw [lq_side ho, lq_side ho, ← tot_append, tot_perm (sides_perm ho)]
theorem lm_both {l : List Lot} (ho : Oks l) : lm (levs l 0) + lm (levs l 1) = l.length := by
  rw [lm_side ho, lm_side ho]
  have := (sides_perm ho).length_eq
  rw [List.length_append] at this
  omega
theorem prs_length {l : List Lot} (ho : Oks l) (sd : Int) : (prs l sd).length ≤ l.length := by
  have h1 : ∀ ps : List Int, (∀ p ∈ ps, lv l sd p ≠ []) → ps.length ≤ (ps.flatMap (lv l sd)).length := by
    intro ps
    induction ps with
    | nil => intro _; simp
    | cons p ps ih =>
      intro h
      have := ih fun q hq => h q (List.mem_cons_of_mem _ hq)
      have hp := List.length_pos_iff.2 (h p List.mem_cons_self)
      simp only [List.flatMap_cons, List.length_cons, List.length_append]; omega
  have h2 := h1 (prs l sd) fun p hp => (mem_prs ho).1 hp
  rw [(prs_perm ho sd).length_eq] at h2
  exact Nat.le_trans h2 (List.length_filter_le _ _)
end Bk
end Go.Proofs.YtjdnahmdicamdaaGreatDoor
