/- Who gets how much, as functions of lists: levels, what is filled of a list of lots, and that it is fair; no program is spoken of. -/
import Derived.Test.YtbcinejhipmomaaDoorCvFacts
namespace Go.Proofs.YtbcinejhipmomaaDoor
namespace Ra
open Cv

def tot : List Lot → Int
  | [] => 0
  | x :: l => x.q + tot l
def Pos (l : List Lot) : Prop := ∀ x ∈ l, 1 ≤ x.q
theorem tot_append : ∀ a b : List Lot, tot (a ++ b) = tot a + tot b
  | [], b => by simp [tot]
  | x :: a, b => by simp [tot, tot_append a b]; omega
theorem tot_perm {a b : List Lot} (h : a.Perm b) : tot a = tot b := by
  induction h with
  | nil => rfl
  | cons x _ ih => simp [tot, ih]
  | swap x y l => simp [tot]; omega
  | trans _ _ h1 h2 => exact h1.trans h2
theorem tot_nonneg : ∀ l : List Lot, Pos l → 0 ≤ tot l
  | [], _ => by simp [tot]
  | x :: l, h => by
    have h1 := h x List.mem_cons_self
    have h2 := tot_nonneg l (fun y hy => h y (List.mem_cons_of_mem _ hy))
    simp only [tot]; omega
theorem tot_filter (f : Lot → Bool) : ∀ l : List Lot, tot (l.filter f) = sumIf f l
  | [] => rfl
  | x :: l => by
    have ih := tot_filter f l
    rw [List.filter_cons]
    simp only [sumIf]
    split
    · simp [tot, ih]
    · simp [ih]
theorem tot_filter_le {f g : Lot → Bool} : ∀ l : List Lot, Pos l → (∀ x ∈ l, f x = true → g x = true) → tot (l.filter f) ≤ tot (l.filter g)
  | [], _, _ => by simp
  | x :: l, h, hfg => by
    have ih := tot_filter_le (f := f) (g := g) l (fun y hy => h y (List.mem_cons_of_mem _ hy)) (fun y hy => hfg y (List.mem_cons_of_mem _ hy))
    have hx := h x List.mem_cons_self
    have hh := hfg x List.mem_cons_self
    rw [List.filter_cons, List.filter_cons]
    by_cases e : f x = true
    · rw [if_pos e, if_pos (hh e)]; simp only [tot]; omega
    · rw [if_neg e]; split
      · simp only [tot]; omega
      · exact ih

/-- what is filled of a list of lots, one behind the other -/
def fill : List Lot → Int → List (Int × Int)
  | [], _ => []
  | x :: l, v => if v = 0 then [] else (x.id, min x.q v) :: fill l (v - min x.q v)
theorem fill_zero : ∀ l : List Lot, fill l 0 = []
  | [] => rfl
  | x :: l => by simp [fill]
theorem fill_append : ∀ (a b : List Lot) (v : Int), Pos a → 0 ≤ v → fill (a ++ b) v = fill a v ++ fill b (v - min (tot a) v)
  | [], b, v, _, hv => by
    have : v - min 0 v = v := by omega
    simp [fill, tot, this]
  | x :: a, b, v, h, hv => by
    have hx := h x List.mem_cons_self
    have ha : Pos a := fun y hy => h y (List.mem_cons_of_mem _ hy)
    have hn := tot_nonneg a ha
    rw [List.cons_append]
    by_cases e : v = 0
    · subst e
      have : (0 : Int) - min (tot (x :: a)) 0 = 0 := by simp only [tot]; omega
      rw [this, fill_zero, fill_zero, fill_zero]; rfl
    · rw [fill, fill, if_neg e, if_neg e, fill_append a b _ ha (by omega), List.cons_append]
      have : v - min x.q v - min (tot a) (v - min x.q v) = v - min (tot (x :: a)) v := by simp only [tot]; omega
      rw [this]
def qs : List (Int × Int) → Int
  | [] => 0
  | x :: l => x.2 + qs l
theorem qs_append : ∀ a b : List (Int × Int), qs (a ++ b) = qs a + qs b
  | [], b => by simp [qs]
  | x :: a, b => by simp [qs, qs_append a b]; omega
theorem fill_sum : ∀ (l : List Lot) (v : Int), Pos l → 0 ≤ v → qs (fill l v) = min (tot l) v
  | [], v, _, hv => by simp [fill, qs, tot]; omega
  | x :: l, v, h, hv => by
    have hx := h x List.mem_cons_self
    have ha : Pos l := fun y hy => h y (List.mem_cons_of_mem _ hy)
    have hn := tot_nonneg l ha
    rw [fill]
    split
    · simp [qs, tot]; omega
    · simp only [qs, tot]
      rw [fill_sum l _ ha (by omega)]
      omega
theorem fill_mem : ∀ (l : List Lot) (v : Int), Pos l → 0 ≤ v → ∀ f ∈ fill l v, 1 ≤ f.2 ∧ ∃ x ∈ l, x.id = f.1
  | [], v, _, _, f, hf => by simp [fill] at hf
  | x :: l, v, h, hv, f, hf => by
    have hx := h x List.mem_cons_self
    have ha : Pos l := fun y hy => h y (List.mem_cons_of_mem _ hy)
    rw [fill] at hf
    split at hf
    · cases hf
    · rcases List.mem_cons.1 hf with rfl | hf
      · exact ⟨by simp only []; omega, x, List.mem_cons_self, rfl⟩
      · obtain ⟨h1, y, hy, e⟩ := fill_mem l _ ha (by omega) f hf
        exact ⟨h1, y, List.mem_cons_of_mem _ hy, e⟩

/-- what a number got of fills -/
def got (id : Int) : List (Int × Int) → Int
  | [] => 0
  | f :: l => (if f.1 = id then f.2 else 0) + got id l
theorem got_append (id : Int) : ∀ a b : List (Int × Int), got id (a ++ b) = got id a + got id b
  | [], b => by simp [got]
  | x :: a, b => by simp [got, got_append id a b]; omega
theorem got_none (id : Int) : ∀ l : List (Int × Int), (∀ f ∈ l, f.1 ≠ id) → got id l = 0
  | [], _ => rfl
  | f :: l, h => by
    have h1 := h f List.mem_cons_self
    have h2 := got_none id l (fun g hg => h g (List.mem_cons_of_mem _ hg))
    simp [got, h1, h2]
def Once (l : List Lot) : Prop := (l.map (·.id)).Nodup
theorem Once.perm {a b : List Lot} (h : Once a) (p : a.Perm b) : Once b := (p.map _).nodup_iff.1 h

theorem got_fill (a : List Lot) (x : Lot) (b : List Lot) (v : Int) (h : Pos (a ++ x :: b)) (hv : 0 ≤ v) (ho : Once (a ++ x :: b)) : got x.id (fill (a ++ x :: b) v) = max 0 (min x.q (v - tot a)) := by
  have ha : Pos a := fun y hy => h y (List.mem_append_left _ hy)
  have hb : Pos b := fun y hy => h y (List.mem_append_right _ (List.mem_cons_of_mem _ hy))
  have hx := h x (List.mem_append_right _ List.mem_cons_self)
  have hn := tot_nonneg a ha
  unfold Once at ho
  rw [List.map_append, List.map_cons, List.nodup_append] at ho
  obtain ⟨_, ho2, ho3⟩ := ho
  obtain ⟨ho4, _⟩ := List.nodup_cons.1 ho2
  rw [fill_append a _ v ha hv, got_append, got_none x.id (fill a v)]
  · rw [fill]
    have hz : ∀ u, 0 ≤ u → got x.id (fill b u) = 0 := fun u hu => got_none _ _ fun f hf e => by
      obtain ⟨_, y, hy, e2⟩ := fill_mem b u hb hu f hf
      exact ho4 (List.mem_map.2 ⟨y, hy, e2.trans e⟩)
    split
    · simp only [got]; omega
    · simp only [got, if_true]
      rw [hz _ (by omega)]
      omega
  · intro f hf e
    obtain ⟨_, y, hy, e2⟩ := fill_mem a v ha hv f hf
    exact ho3 _ (List.mem_map.2 ⟨y, hy, rfl⟩) _ List.mem_cons_self (e2.trans e)
theorem got_out (s : List Lot) (id v : Int) (h : Pos s) (hv : 0 ≤ v) (hn : ∀ x ∈ s, x.id ≠ id) : got id (fill s v) = 0 :=
  got_none _ _ fun f hf e => by
    obtain ⟨_, y, hy, e2⟩ := fill_mem s v h hv f hf
    exact hn y hy (e2.trans e)

/-- what all lots of a list got -/
def gots (F : List (Int × Int)) : List Lot → Int
  | [] => 0
  | x :: l => got x.id F + gots F l
theorem gots_none (id q : Int) (F : List (Int × Int)) : ∀ l : List Lot, (∀ x ∈ l, x.id ≠ id) → gots ((id, q) :: F) l = gots F l
  | [], _ => rfl
  | x :: l, h => by
    have h1 : ¬ id = x.id := fun e => h x List.mem_cons_self e.symm
    simp only [gots, got]
    rw [if_neg h1, gots_none id q F l (fun y hy => h y (List.mem_cons_of_mem _ hy))]; omega
theorem gots_one (id q : Int) (F : List (Int × Int)) : ∀ l : List Lot, Once l → (∃ x ∈ l, x.id = id) → gots ((id, q) :: F) l = q + gots F l
  | [], _, h => by obtain ⟨x, hx, _⟩ := h; cases hx
  | x :: l, ho, h => by
    obtain ⟨ho1, ho2⟩ := List.nodup_cons.1 ho
    by_cases e : id = x.id
    · simp only [gots, got]
      rw [if_pos e, gots_none id q F l (fun y hy e2 => ho1 (List.mem_map.2 ⟨y, hy, e2.trans e⟩))]; omega
    · simp only [gots, got]
      rw [if_neg e, gots_one id q F l ho2 ?_]
      · omega
      · obtain ⟨y, hy, e2⟩ := h
        rcases List.mem_cons.1 hy with rfl | hy
        · exact absurd e2.symm e
        · exact ⟨y, hy, e2⟩
theorem gots_sum (l : List Lot) (ho : Once l) : ∀ F : List (Int × Int), (∀ f ∈ F, ∃ x ∈ l, x.id = f.1) → gots F l = qs F
  | [], _ => by
    simp only [qs]
    clear ho
    induction l with
    | nil => rfl
    | cons x l ih => simp [gots, got, ih]
  | f :: F, h => by
    rw [show f = (f.1, f.2) from rfl, gots_one f.1 f.2 F l ho (h f List.mem_cons_self), gots_sum l ho F (fun g hg => h g (List.mem_cons_of_mem _ hg))]
    rfl

/-! levels -/
def lv (l : List Lot) (sd p : Int) : List Lot := l.filter fun x => x.sd == sd && x.pr == p
/-- the order in which a level is filled -/
def arr (sh : List Lot → List Lot) (x : List Lot) (v : Int) : List Lot := if v < tot x then sh x else x
/-- the order in which a side is filled -/
def row (sh : List Lot → List Lot) (l : List Lot) (sd : Int) : List Int → Int → List Lot
  | [], _ => []
  | p :: ps, v => arr sh (lv l sd p) v ++ row sh l sd ps (v - min (tot (lv l sd p)) v)
def Mix (sh : List Lot → List Lot) : Prop := ∀ l, (sh l).Perm l
theorem arr_perm {sh : List Lot → List Lot} (hs : Mix sh) (x : List Lot) (v : Int) : (arr sh x v).Perm x := by
  unfold arr; split
  · exact hs x
  · exact List.Perm.refl _
theorem lv_pos {l : List Lot} (h : Pos l) (sd p : Int) : Pos (lv l sd p) := fun x hx => h x (List.mem_filter.1 hx).1
theorem arr_pos {sh : List Lot → List Lot} (hs : Mix sh) {x : List Lot} (h : Pos x) (v : Int) : Pos (arr sh x v) := fun y hy => h y ((arr_perm hs x v).mem_iff.1 hy)
theorem tot_arr {sh : List Lot → List Lot} (hs : Mix sh) (x : List Lot) (v : Int) : tot (arr sh x v) = tot x := tot_perm (arr_perm hs x v)
theorem row_perm {sh : List Lot → List Lot} (hs : Mix sh) (l : List Lot) (sd : Int) : ∀ (ps : List Int) (v : Int), (row sh l sd ps v).Perm (ps.flatMap (lv l sd))
  | [], _ => List.Perm.refl _
  | p :: ps, v => by
    rw [List.flatMap_cons]
    exact (arr_perm hs _ _).append (row_perm hs l sd ps _)
/-- what a side is filled with -/
def sf (sh : List Lot → List Lot) (l : List Lot) (sd : Int) (ps : List Int) (v : Int) : List (Int × Int) := fill (row sh l sd ps v) v
theorem sf_cons {sh : List Lot → List Lot} (hs : Mix sh) {l : List Lot} (h : Pos l) (sd p : Int) (ps : List Int) (v : Int) (hv : 0 ≤ v) :
    sf sh l sd (p :: ps) v = fill (arr sh (lv l sd p) v) v ++ sf sh l sd ps (v - min (tot (lv l sd p)) v) := by
  unfold sf
  rw [row, fill_append _ _ _ (arr_pos hs (lv_pos h sd p) v) hv, tot_arr hs]
theorem sf_zero (sh : List Lot → List Lot) (l : List Lot) (sd : Int) (ps : List Int) : sf sh l sd ps 0 = [] := fill_zero _
theorem sf_empty {sh : List Lot → List Lot} (hs : Mix sh) {l : List Lot} (h : Pos l) (sd p : Int) (ps : List Int) (v : Int) (hv : 0 ≤ v) (he : lv l sd p = []) : sf sh l sd (p :: ps) v = sf sh l sd ps v := by
  rw [sf_cons hs h sd p ps v hv, he]
  have e1 : arr sh [] v = [] := by unfold arr; rw [if_neg (by simp [tot]; omega)]
  have e2 : v - min (tot []) v = v := by simp [tot]; omega
  rw [e1, e2]; rfl
theorem sf_filter {sh : List Lot → List Lot} (hs : Mix sh) {l : List Lot} (h : Pos l) (sd : Int) : ∀ (ps : List Int) (v : Int), 0 ≤ v → sf sh l sd (ps.filter fun p => !(lv l sd p).isEmpty) v = sf sh l sd ps v
  | [], _, _ => rfl
  | p :: ps, v, hv => by
    rw [List.filter_cons]
    split
    · have h2 := tot_nonneg _ (lv_pos h sd p)
      rw [sf_cons hs h sd p _ v hv, sf_cons hs h sd p _ v hv, sf_filter hs h sd ps _ (by omega)]
    · rename_i e
      rw [sf_empty hs h sd p ps v hv (by simpa using e), sf_filter hs h sd ps v hv]
/-- where all fits, nothing is drawn -/
theorem row_fits (sh : List Lot → List Lot) {l : List Lot} (h : Pos l) (sd : Int) : ∀ (ps : List Int) (v : Int), tot (ps.flatMap (lv l sd)) ≤ v → row sh l sd ps v = ps.flatMap (lv l sd)
  | [], _, _ => rfl
  | p :: ps, v, hv => by
    rw [List.flatMap_cons] at hv ⊢
    rw [tot_append] at hv
    have h2 := tot_nonneg _ (lv_pos h sd p)
    have h3 : 0 ≤ tot (ps.flatMap (lv l sd)) := tot_nonneg _ fun x hx => by
      obtain ⟨q, _, hq⟩ := List.mem_flatMap.1 hx
      exact lv_pos h sd q x hq
    rw [row, row_fits sh h sd ps _ (by omega)]
    unfold arr
    rw [if_neg (by omega)]

/-! who is worse than a price -/
def el (sd price : Int) (x : Lot) : Bool := x.sd == sd && !better sd price x.pr
/-- prices from the best one on -/
def Falls (sd : Int) (ps : List Int) : Prop := ps.Pairwise fun p q => better sd p q = true
theorem better_irrefl (sd p : Int) : better sd p p = false := by unfold better; split <;> simp
theorem filter_or_perm {α : Type} (f g : α → Bool) : ∀ l : List α, (∀ x ∈ l, f x = true → g x = false) → (l.filter fun x => f x || g x).Perm (l.filter f ++ l.filter g)
  | [], _ => List.Perm.refl _
  | x :: l, h => by
    have ih := filter_or_perm f g l (fun y hy => h y (List.mem_cons_of_mem _ hy))
    have hx := h x List.mem_cons_self
    rw [List.filter_cons, List.filter_cons, List.filter_cons]
    cases hf : f x
    · cases hg : g x
      · simpa using ih
      · simpa using (ih.cons x).trans List.perm_middle.symm
    · simpa [hx hf] using ih.cons x
theorem levels_perm (l : List Lot) (sd : Int) : ∀ ps : List Int, ps.Nodup → (ps.flatMap (lv l sd)).Perm (l.filter fun x => x.sd == sd && ps.contains x.pr)
  | [], _ => by simp
  | p :: ps, h => by
    obtain ⟨h1, h2⟩ := List.nodup_cons.1 h
    rw [List.flatMap_cons]
    have ih := levels_perm l sd ps h2
    have hp := filter_or_perm (fun x : Lot => x.sd == sd && x.pr == p) (fun x : Lot => x.sd == sd && ps.contains x.pr) l fun x _ hx => by
      simp only [Bool.and_eq_true, beq_iff_eq] at hx
      rw [hx.2]; simp [h1]
    have he : (fun x : Lot => x.sd == sd && (p :: ps).contains x.pr) = fun x : Lot => (x.sd == sd && x.pr == p) || (x.sd == sd && ps.contains x.pr) := by
      funext x
      rw [List.contains_cons]
      cases x.sd == sd <;> simp
    rw [he]
    exact ((List.Perm.refl _).append ih).trans hp.symm
theorem row_order {sh : List Lot → List Lot} (hs : Mix sh) (l : List Lot) (sd : Int) : ∀ (ps : List Int) (v : Int), Falls sd ps → (row sh l sd ps v).Pairwise fun x y => better sd y.pr x.pr = false
  | [], _, _ => List.Pairwise.nil
  | p :: ps, v, h => by
    obtain ⟨h1, h2⟩ := List.pairwise_cons.1 h
    have hp : ∀ x ∈ arr sh (lv l sd p) v, x.pr = p := fun x hx => by
      have := (List.mem_filter.1 ((arr_perm hs _ _).mem_iff.1 hx)).2
      simp only [Bool.and_eq_true, beq_iff_eq] at this
      exact this.2
    rw [row]
    refine List.pairwise_append.2 ⟨?_, row_order hs l sd ps _ h2, fun x hx y hy => ?_⟩
    · refine List.Pairwise.imp_of_mem (R := fun _ _ => True) (fun hx hy _ => ?_) (List.pairwise_of_forall (fun _ _ => trivial))
      rw [hp _ hx, hp _ hy]; exact better_irrefl sd p
    · have hq := (row_perm hs l sd ps _).mem_iff.1 hy
      obtain ⟨q, hq1, hq2⟩ := List.mem_flatMap.1 hq
      have := (List.mem_filter.1 hq2).2
      simp only [Bool.and_eq_true, beq_iff_eq] at this
      rw [hp x hx, this.2]
      have hb := h1 q hq1
      unfold better at hb ⊢
      split at hb <;> simp_all <;> omega

/-! the three facts: within, whole ahead, one level alone -/
theorem got_within {s : List Lot} {v : Int} (h : Pos s) (hv : 0 ≤ v) (ho : Once s) {x : Lot} (hx : x ∈ s) : 0 ≤ got x.id (fill s v) ∧ got x.id (fill s v) ≤ x.q := by
  obtain ⟨a, b, rfl⟩ := List.append_of_mem hx
  have hq := h x hx
  rw [got_fill a x b v h hv ho]; omega
theorem got_ahead {sd : Int} {s : List Lot} {v : Int} (h : Pos s) (hv : 0 ≤ v) (ho : Once s) (hp : s.Pairwise fun x y => better sd y.pr x.pr = false) {x y : Lot} (hx : x ∈ s) (hy : y ∈ s) (hb : better sd y.pr x.pr = true) (hg : 0 < got x.id (fill s v)) : got y.id (fill s v) = y.q := by
  obtain ⟨a, b, rfl⟩ := List.append_of_mem hx
  rw [got_fill a x b v h hv ho] at hg
  obtain ⟨_, hp2, hp3⟩ := List.pairwise_append.1 hp
  have hya : y ∈ a := by
    rcases List.mem_append.1 hy with hy | hy
    · exact hy
    · rcases List.mem_cons.1 hy with rfl | hy
      · rw [better_irrefl] at hb; cases hb
      · have := (List.pairwise_cons.1 hp2).1 y hy
        rw [this] at hb; cases hb
  obtain ⟨a1, a2, rfl⟩ := List.append_of_mem hya
  have e : a1 ++ y :: a2 ++ x :: b = a1 ++ y :: (a2 ++ x :: b) := by simp
  have h2 : 0 ≤ tot a2 := tot_nonneg _ fun z hz => h z (by simp [hz])
  have hq := h y hy
  rw [tot_append] at hg
  simp only [tot] at hg
  rw [e] at h ho ⊢
  rw [got_fill a1 y _ v h hv ho]
  omega
theorem got_whole {sd : Int} {s : List Lot} {v : Int} (h : Pos s) (hv : 0 ≤ v) (ho : Once s) (hp : s.Pairwise fun x y => better sd y.pr x.pr = false) {x : Lot} (hx : x ∈ s) (hb : tot (s.filter fun y => !better sd x.pr y.pr) ≤ v) : got x.id (fill s v) = x.q := by
  obtain ⟨a, b, rfl⟩ := List.append_of_mem hx
  rw [got_fill a x b v h hv ho]
  obtain ⟨_, hp2, hp3⟩ := List.pairwise_append.1 hp
  rw [List.filter_append, List.filter_cons, if_pos (by rw [better_irrefl]; rfl), tot_append] at hb
  have ha : a.filter (fun y => !better sd x.pr y.pr) = a := List.filter_eq_self.2 fun y hy => by rw [hp3 y hy x List.mem_cons_self]; rfl
  rw [ha] at hb
  have h2 : 0 ≤ tot (b.filter fun y => !better sd x.pr y.pr) := tot_nonneg _ fun z hz => h z (by simp [(List.mem_filter.1 hz).1])
  have hq := h x hx
  simp only [tot] at hb
  omega
theorem got_behind {sd : Int} {s : List Lot} {v : Int} (h : Pos s) (hv : 0 ≤ v) (ho : Once s) (hp : s.Pairwise fun x y => better sd y.pr x.pr = false) {x : Lot} (hx : x ∈ s) (hb : v ≤ tot (s.filter fun y => better sd y.pr x.pr)) : got x.id (fill s v) = 0 := by
  obtain ⟨a, b, rfl⟩ := List.append_of_mem hx
  rw [got_fill a x b v h hv ho]
  obtain ⟨_, hp2, hp3⟩ := List.pairwise_append.1 hp
  rw [List.filter_append, List.filter_cons, if_neg (by rw [better_irrefl]; simp), tot_append] at hb
  have hbn : b.filter (fun y => better sd y.pr x.pr) = [] := List.filter_eq_nil_iff.2 fun y hy => by rw [(List.pairwise_cons.1 hp2).1 y hy]; simp
  rw [hbn] at hb
  have ha : tot (a.filter fun y => better sd y.pr x.pr) ≤ tot (a.filter fun _ => true) := tot_filter_le a (fun y hy => h y (List.mem_append_left _ hy)) (fun _ _ _ => rfl)
  rw [show a.filter (fun _ => true) = a from List.filter_eq_self.2 fun _ _ => rfl] at ha
  have hq := h x hx
  simp only [tot] at hb
  omega
theorem better_total (sd p q : Int) (h : p ≠ q) : better sd p q = true ∨ better sd q p = true := by
  unfold better; split <;> simp <;> omega
/-- two orders of the same lots: those that get otherwise are of one level -/
theorem one_level {sd : Int} {s t : List Lot} {v : Int} (hst : s.Perm t) (h : Pos s) (hv : 0 ≤ v) (ho : Once s) (hp : s.Pairwise fun x y => better sd y.pr x.pr = false) (hq : t.Pairwise fun x y => better sd y.pr x.pr = false)
    {x y : Lot} (hx : x ∈ s) (hy : y ∈ s) (dx : got x.id (fill s v) ≠ got x.id (fill t v)) (dy : got y.id (fill s v) ≠ got y.id (fill t v)) : x.pr = y.pr := by
  have ht : Pos t := fun z hz => h z (hst.mem_iff.2 hz)
  have hot : Once t := ho.perm hst
  have key : ∀ z ∈ s, got z.id (fill s v) ≠ got z.id (fill t v) → tot (s.filter fun u => better sd u.pr z.pr) < v ∧ v < tot (s.filter fun u => !better sd z.pr u.pr) := by
    intro z hz dz
    refine ⟨Int.not_le.1 fun e => dz ?_, Int.not_le.1 fun e => dz ?_⟩
    · rw [got_behind h hv ho hp hz e, got_behind ht hv hot hq (hst.mem_iff.1 hz) (by rw [← tot_perm (hst.filter _)]; exact e)]
    · rw [got_whole h hv ho hp hz e, got_whole ht hv hot hq (hst.mem_iff.1 hz) (by rw [← tot_perm (hst.filter _)]; exact e)]
  have step : ∀ p q : Int, better sd p q = true → tot (s.filter fun u => !better sd p u.pr) ≤ tot (s.filter fun u => better sd u.pr q) := fun p q hb => tot_filter_le s h fun u _ hu => by
    unfold better at hb hu ⊢; split at hb <;> simp_all <;> omega
  by_cases e : x.pr = y.pr
  · exact e
  · have kx := key x hx dx
    have ky := key y hy dy
    rcases better_total sd _ _ e with hb | hb
    · have := step _ _ hb; omega
    · have := step _ _ hb; omega
end Ra
end Go.Proofs.YtbcinejhipmomaaDoor
