/- Acts on a book as they come in, and what a book is behind them; the errors by their numbers. -/
import Derived.Test.YtbcinejhipmomaaDoorBkBooked
import Derived.Test.YtbcinejhipmomaaDoorBkLevels
namespace Go.Proofs.YtbcinejhipmomaaDoor
open Go.RowKit
set_option maxRecDepth 100000

structure BAct where
  kind : ByteArray
  x : Cv.Lot
  id : Int
  q : Int
def az : BAct := ⟨ByteArray.empty, Cv.z, 0, 0⟩
def anth (l : List BAct) (i : Nat) : BAct := l.getD i az
def addK : ByteArray := ⟨#[97, 100, 100]⟩
def cancelK : ByteArray := ⟨#[99, 97, 110, 99, 101, 108]⟩
def actCells (a : BAct) : List Value := [.string a.kind, .int .i64 a.x.id, .int .i64 a.x.ow, .int .i64 a.x.sd, .int .i64 a.x.pr, .int .i64 a.x.q, .int .i64 a.id, .int .i64 a.q]
/-- the cells of a slice of acts that came in -/
def ActsAt (w : World) (g : Addr) (l : List BAct) : Prop :=
  ∀ i, i < l.length → w.cell? (g.add (i * 8)) = some (.string (anth l i).kind) ∧ w.cell? ⟨(g.add (i * 8)).block, (g.add (i * 8)).off + 1, none⟩ = some (.int .i64 (anth l i).x.id) ∧ w.cell? ⟨(g.add (i * 8)).block, (g.add (i * 8)).off + 2, none⟩ = some (.int .i64 (anth l i).x.ow) ∧
    w.cell? ⟨(g.add (i * 8)).block, (g.add (i * 8)).off + 3, none⟩ = some (.int .i64 (anth l i).x.sd) ∧ w.cell? ⟨(g.add (i * 8)).block, (g.add (i * 8)).off + 4, none⟩ = some (.int .i64 (anth l i).x.pr) ∧ w.cell? ⟨(g.add (i * 8)).block, (g.add (i * 8)).off + 5, none⟩ = some (.int .i64 (anth l i).x.q) ∧
    w.cell? ⟨(g.add (i * 8)).block, (g.add (i * 8)).off + 6, none⟩ = some (.int .i64 (anth l i).id) ∧ w.cell? ⟨(g.add (i * 8)).block, (g.add (i * 8)).off + 7, none⟩ = some (.int .i64 (anth l i).q)
theorem ActsAt.later {w w' : World} {g : Addr} {l : List BAct} (h : ActsAt w g l) (hb : Below w.heap.size w w') : ActsAt w' g l :=
  fun i hi => ⟨cell_later hb (h i hi).1, cell_later hb (h i hi).2.1, cell_later hb (h i hi).2.2.1, cell_later hb (h i hi).2.2.2.1, cell_later hb (h i hi).2.2.2.2.1, cell_later hb (h i hi).2.2.2.2.2.1, cell_later hb (h i hi).2.2.2.2.2.2.1, cell_later hb (h i hi).2.2.2.2.2.2.2⟩
/-- a slice of acts that came in -/
def ArgActs (w : World) (a : Option Addr) (n : Nat) (l : List BAct) : Prop := l.length = n ∧ (n = 0 ∨ ∃ g, a = some g ∧ ActsAt w g l)
theorem errOf_ne (T : TypeId) (v1 v5 v6 v7 : Value) {c : Nat} (h : ¬ c = 0) : ∃ y, errOf T v1 v5 v6 v7 c = .iface T y := by
  match c, h with
  | 0, h => exact absurd rfl h
  | 1, _ => exact ⟨_, rfl⟩
  | 2, _ => exact ⟨_, rfl⟩
  | 3, _ => exact ⟨_, rfl⟩
  | _ + 4, _ => exact ⟨_, rfl⟩
theorem errOf_zero (T : TypeId) (v1 v5 v6 v7 : Value) {c : Nat} (h : c = 0) : errOf T v1 v5 v6 v7 c = .nilIface := by subst h; rfl
/-- the levels of a slice of the call's own -/
def LevAt (w : World) (g : Nat) (L : List Bk.Lev) : Prop := ∀ (j : Nat) (h : j < L.length), w.cell? ⟨g, j * 3, none⟩ = some (.int .i64 L[j].pr) ∧ w.cell? ⟨g, j * 3 + 1, none⟩ = some (.int .i64 L[j].q) ∧ w.cell? ⟨g, j * 3 + 2, none⟩ = some (.int .i64 L[j].m)
theorem LevAt.later {w w' : World} {g : Nat} {L : List Bk.Lev} (h : LevAt w g L) (hb : Below w.heap.size w w') : LevAt w' g L :=
  fun j hj => ⟨cell_later hb (h j hj).1, cell_later hb (h j hj).2.1, cell_later hb (h j hj).2.2⟩
theorem lflat_length : ∀ L : List Bk.Lev, (lflat L).length = L.length * 3
  | [] => rfl
  | x :: l => by
    have := lflat_length l
    simp only [lflat, List.flatMap_cons, List.length_append, List.length_cons] at this ⊢
    rw [this, show (levCells x).length = 3 from rfl]
    omega
theorem lflat_at : ∀ (L : List Bk.Lev) (i j : Nat) (h : i < L.length), j < 3 → (lflat L)[i * 3 + j]? = (levCells L[i])[j]?
  | [], i, j, h, _ => absurd h (Nat.not_lt_zero i)
  | x :: l, 0, j, _, hj => by
    show (levCells x ++ lflat l)[0 * 3 + j]? = _
    rw [Nat.zero_mul, Nat.zero_add, List.getElem?_append_left (by show j < 3; exact hj)]
    rfl
  | x :: l, i + 1, j, h, hj => by
    show (levCells x ++ lflat l)[(i + 1) * 3 + j]? = _
    rw [List.getElem?_append_right (by show 3 ≤ _; omega), show (i + 1) * 3 + j - (levCells x).length = i * 3 + j by show _ - 3 = _; omega, lflat_at l i j (by simpa using h) hj]
    rfl
theorem levAt_of {w : World} {base g n cap : Nat} {L : List Bk.Lev} (h : w.ownsRow base 59 3 (.slice (some ⟨g, 0, none⟩) n cap) n (lflat L)) (hn : n = L.length) : LevAt w g L := by
  intro j hj
  have key : ∀ k u, k < 3 → (levCells L[j])[k]? = some u → w.cell? ⟨g, j * 3 + k, none⟩ = some u := fun k u hk hu => by
    rw [(row_open h (j * 3 + k) (by omega)).2.2, lflat_at L j k hj hk]; exact hu
  exact ⟨key 0 _ (by decide) rfl, key 1 _ (by decide) rfl, key 2 _ (by decide) rfl⟩
/-- what rests is between bounds -/
theorem lq_take {l : List Cv.Lot} (h : Bk.Good l) (sd : Int) (j : Nat) : 0 ≤ Bk.lq ((Bk.levs l sd).take j) ∧ Bk.lq ((Bk.levs l sd).take j) ≤ 60000 ∧ 0 ≤ Bk.lm ((Bk.levs l sd).take j) ∧ Bk.lm ((Bk.levs l sd).take j) ≤ 60 := by
  have e1 := Bk.lq_append ((Bk.levs l sd).take j) ((Bk.levs l sd).drop j)
  have e2 := Bk.lm_append ((Bk.levs l sd).take j) ((Bk.levs l sd).drop j)
  rw [List.take_append_drop] at e1 e2
  have pos : ∀ L : List Bk.Lev, (∀ x ∈ L, 0 ≤ x.q ∧ 0 ≤ x.m) → 0 ≤ Bk.lq L ∧ 0 ≤ Bk.lm L := by
    intro L
    induction L with
    | nil => intro _; exact ⟨Int.le_refl _, Int.le_refl _⟩
    | cons x L ih =>
      intro hx
      have h1 := hx x List.mem_cons_self
      have h2 := ih fun y hy => hx y (List.mem_cons_of_mem _ hy)
      simp only [Bk.lq, Bk.lm]
      omega
  have each : ∀ x ∈ Bk.levs l sd, 0 ≤ x.q ∧ 0 ≤ x.m := by
    intro x hx
    obtain ⟨p, _, rfl⟩ := List.mem_map.1 hx
    exact ⟨Ra.tot_nonneg _ (Ra.lv_pos (fun y hy => ((Cv.ok_bounds (h.oks y hy)).2.2.2.2).1) sd p), by simp [Bk.lev]⟩
  have p1 := pos ((Bk.levs l sd).take j) fun x hx => each x (List.mem_of_mem_take hx)
  have p2 := pos ((Bk.levs l sd).drop j) fun x hx => each x (List.mem_of_mem_drop hx)
  have t1 := Bk.lq_side h.oks sd
  have t2 := Bk.lm_side h.oks sd
  have t3 := Bk.tot_bound (l := l.filter fun x => x.sd == sd) (fun x hx => h.oks x (List.mem_filter.1 hx).1)
  have t4 : (l.filter fun x => x.sd == sd).length ≤ l.length := List.length_filter_le _ _
  have t5 := h.len
  omega
theorem lq_step {L : List Bk.Lev} {j : Nat} (h : j < L.length) : Bk.lq (L.take (j + 1)) = Bk.lq (L.take j) + L[j].q ∧ Bk.lm (L.take (j + 1)) = Bk.lm (L.take j) + L[j].m := by
  rw [List.take_succ_eq_append_getElem h, Bk.lq_append, Bk.lm_append]
  simp [Bk.lq, Bk.lm]
theorem levs_falls (l : List Cv.Lot) (sd : Int) (j : Nat) (h : j + 1 < (Bk.levs l sd).length) : Cv.better sd ((Bk.levs l sd)[j]'(by omega)).pr ((Bk.levs l sd)[j + 1]'h).pr = true := by
  have hp := List.pairwise_iff_getElem.1 (Bk.falls_prs l sd) j (j + 1) (by simp [Bk.levs] at h; omega) (by simpa [Bk.levs] using h) (by omega)
  simpa [Bk.levs, Bk.lev] using hp
theorem levs_falls' {l : List Cv.Lot} {sd : Int} {LV : List Bk.Lev} (h : Bk.levs l sd = LV) (j : Nat) (hj : j + 1 < LV.length) : Cv.better sd (LV[j]'(by omega)).pr (LV[j + 1]'hj).pr = true := by
  subst h; exact levs_falls l sd j hj
end Go.Proofs.YtbcinejhipmomaaDoor
