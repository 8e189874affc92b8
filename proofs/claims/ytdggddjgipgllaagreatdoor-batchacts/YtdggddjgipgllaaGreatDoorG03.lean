/- Short words for facts on memory that are used all over. -/
import Derived.Test.YtdggddjgipgllaaGreatDoorG02
import Derived.Laws.Rows
import Derived.OneCell
import Derived.Below
import Derived.Test.YtdggddjgipgllaaGreatDoorG01
import Derived.Deep.Light
namespace Go.Proofs.YtdggddjgipgllaaGreatDoor
open Go.RowKit
theorem cof {w : World} {g j : Nat} {cs : Array Value} {t : TypeId} {fr : Nat × Nat} {v : Value} (hg : w.heap[g]? = some (.cells cs t fr)) (hv : cs[j]? = some v) : w.cell? ⟨g, j, none⟩ = some v := by rw [cell_of_row _ _ _ _ _ _ hg]; exact hv
theorem fof {w : World} {g j : Nat} {cs : Array Value} {t : TypeId} (hg : w.heap[g]? = some (.cells cs t (0, 0))) : w.frozen? ⟨g, j, none⟩ = false := by simp [World.frozen?, hg]
theorem rof {w w' : World} {k : Nat} {o : Obj} (hb : Below w.heap.size w w') (h : w.heap[k]? = some o) : w'.heap[k]? = some o := by rw [hb.block _ (lt_of_block h)]; exact h
theorem bal {w : World} {o : Obj} : Below w.heap.size w (w.alloc o) := (Below.refl _ _).alloc (Nat.le_refl _) o
end Go.Proofs.YtdggddjgipgllaaGreatDoor
namespace Go.Proofs.YtdggddjgipgllaaGreatDoor
namespace Fs
open Cv Bk Ra Pu Fu

structure Fil (l : List Lot) (price : Int) (F : List (Int × Int)) : Prop where
 pos : ∀ f ∈ F, 1 ≤ f.2 ∧ ∃ x ∈ l, x.id = f.1
 le : ∀ x ∈ l, 0 ≤ got x.id F ∧ got x.id F ≤ x.q
 el : ∀ x ∈ l, 0 < got x.id F → (x.sd = 0 → price ≤ x.pr) ∧ (x.sd = 1 → x.pr ≤ price)
 bal : sumBy (fun x => if x.sd = 0 then got x.id F else 0) l = sumBy (fun x => if x.sd = 1 then got x.id F else 0) l
def restL (F : List (Int × Int)) (l : List Lot) : List Lot := rem (fun id => got id F) l
def sett (f : Nat → Int) (i : Nat) (price : Int) (l : List Lot) (F : List (Int × Int)) (j : Nat) : Int := f j + sumBy (fun x => eff i price j x (got x.id F)) l
structure FOk (L : Nat → List Lot) (f : Nat → Int) : Prop where
 bk : ∀ i, i < 3 → Bk.Good (L i)
 good : Pu.Good f
 held : Held L f
 cash : cashes f 6 ≤ 1099511627776
 stock : ∀ k, k < 3 → stocks f k 6 ≤ 1073741824

theorem eff_held {i : Nat} (hi : i < 3) {price : Int} {j : Nat} (hj : IsHeld j) (x : Lot) (q : Int) : eff i price j x q = -(askq i j x q) := by
 obtain ⟨c, hc, hcj⟩ := hj
 unfold eff askq hx per
 rw [Int.toNat_natCast]
 split
 ·rw [dl_ne (i := x.ow.toNat * 8) (by rcases hcj with e | ⟨k, hk, e⟩ <;> omega), dl_ne (i := x.ow.toNat * 8 + 2 + i) (by rcases hcj with e | ⟨k, hk, e⟩ <;> omega)]
  unfold dl; split <;> omega
 ·rw [dl_ne (i := x.ow.toNat * 8) (by rcases hcj with e | ⟨k, hk, e⟩ <;> omega), dl_ne (i := x.ow.toNat * 8 + 2 + i) (by rcases hcj with e | ⟨k, hk, e⟩ <;> omega), Int.one_mul]
  unfold dl; split <;> omega
theorem sum_rem {φ : Lot → Int → Int} (hφ : Lin φ) {c : Int → Int} : ∀ {l : List Lot}, (∀ x ∈ l, c x.id ≤ x.q) → sumBy (own φ) (rem c l) = sumBy (own φ) l - sumBy (fun x => φ x (c x.id)) l
 | [], _ => rfl
 | x :: l, h => by
  have ih := sum_rem hφ (c := c) (l := l) fun y hy => h y (List.mem_cons_of_mem _ hy)
  have hx := h x (List.mem_cons_self ..)
  have e : φ x x.q = φ x (x.q - c x.id) + φ x (c x.id) := by rw [← hφ.add]; congr 1; omega
  unfold rem at ih ⊢
  rw [List.filterMap_cons]
  by_cases hc : c x.id < x.q
  ·have : remF c x = some (less x (c x.id)) := by unfold remF; rw [if_pos hc]
   rw [this]
   show own φ (less x (c x.id)) + sumBy (own φ) (l.filterMap (remF c)) = own φ x + sumBy (own φ) l - (φ x (c x.id) + sumBy _ l)
   have e2 : own φ (less x (c x.id)) = φ x (x.q - c x.id) := hφ.self x _ _
   rw [e2, ih]
   unfold own
   omega
  ·have : remF c x = none := by unfold remF; rw [if_neg hc]
   rw [this]
   show sumBy (own φ) (l.filterMap (remF c)) = own φ x + sumBy (own φ) l - (φ x (c x.id) + sumBy _ l)
   have e3 : c x.id = x.q := by omega
   rw [ih]
   unfold own
   rw [e3]
   omega
theorem good_rem {l : List Lot} (h : Bk.Good l) {c : Int → Int} (hc : ∀ x ∈ l, 0 ≤ c x.id) : Bk.Good (rem c l) := by
 refine ⟨fun y hy => ?_, Nat.le_trans (List.length_filterMap_le _ _) h.2, rem_once h.3⟩
 obtain ⟨x, hx, hlt, rfl⟩ := rem_mem.1 hy
 have h0 := hc x hx
 by_cases e : c x.id = 0
 ·rw [e]
  have : less x 0 = x := by unfold less; simp
  rw [this]; exact h.1 x hx
 ·exact ok_less (h.1 x hx) (by omega) hlt
theorem side_or {l : List Lot} (h : Oks l) {x : Lot} (hx : x ∈ l) : x.sd = 0 ∨ x.sd = 1 := by
 have := (ok_bounds (h x hx)).2.2.1; omega
theorem both_sides {φ : Lot → Int → Int} {l : List Lot} (h : Oks l) (F : List (Int × Int)) :
  sumBy (fun x => if x.sd = 0 then φ x (got x.id F) else 0) l + sumBy (fun x => if x.sd = 1 then φ x (got x.id F) else 0) l = sumBy (fun x => φ x (got x.id F)) l := by
 rw [← sumBy_add]
 exact sumBy_congr fun x hx => by
  rcases side_or h hx with e | e
  ·rw [if_pos e, if_neg (by omega)]; omega
  ·rw [if_neg (by omega), if_pos e]; omega
theorem filled_well {l : List Lot} (h : Oks l) {price : Int} {F : List (Int × Int)} (hF : Fil l price F) {i : Nat} (hi : i < 3) {sd : Int} {y : Lot} (hy : y ∈ filled l sd F) : well i y = true ∧ y.sd = sd ∧ (y.sd = 0 → price ≤ y.pr) ∧ (y.sd = 1 → y.pr ≤ price) := by
 obtain ⟨f, hf, x, hx, hid, hsd, rfl⟩ := filled_mem hy
 have h1 := (hF.pos f hf).1
 have h2 := got_mem_le (fun g hg => (hF.pos g hg).1) hf
 rw [← hid] at h2
 have h3 := (hF.le x hx).2
 exact ⟨only_well (well_of hi (h x hx)) h1 (by omega), hsd, (hF.el x hx (by omega)).1, (hF.el x hx (by omega)).2⟩
theorem FOk.start {L : Nat → List Lot} {f : Nat → Int} (h : FOk L f) {i : Nat} (hi : i < 3) {price : Int} {F : List (Int × Int)} (hF : Fil (L i) price F) : TI i price (sett f i price (L i) F) f (filled (L i) 0 F) (filled (L i) 1 F) := by
 have hok := (h.bk i hi).1
 have hon := (h.bk i hi).3
 have hm : ∀ g ∈ F, ∃ x ∈ L i, x.id = g.1 := fun g hg => (hF.pos g hg).2
 have hs : ∀ {φ : Lot → Int → Int}, Lin φ → sumBy (own φ) (filled (L i) 0 F) + sumBy (own φ) (filled (L i) 1 F) = sumBy (fun x => φ x (got x.id F)) (L i) := fun {φ} hφ => by
  rw [sum_filled hφ hon 0 F hm, sum_filled hφ hon 1 F hm, both_sides hok]
 refine ⟨fun j => ?_, ?_, fun x hx => ?_, fun x hx => ?_, h.good, fun j hj => ?_, h.cash, h.stock⟩
 ·have := hs (lin_eff i price j)
  unfold sett
  omega
 ·rw [tot_own, tot_own, sum_filled lin_one hon 0 F hm, sum_filled lin_one hon 1 F hm]
  exact hF.bal
 ·obtain ⟨a, b, c, _⟩ := filled_well hok hF hi hx
  exact ⟨a, b, c b⟩
 ·obtain ⟨a, b, _, c⟩ := filled_well hok hF hi hx
  exact ⟨a, b, c b⟩
 ·rw [ask_own, ask_own, hs (lin_ask i j), h.held j hj]
  have h1 : sumBy (fun x => askq i j x (got x.id F)) (L i) ≤ sumBy (ask1 i j) (L i) := sumBy_le fun x hx => by
   have hb := hF.le x hx
   have hp := ok_bounds (hok x hx)
   rw [ask_q]
   unfold askq dl
   split
   ·exact Int.mul_le_mul_of_nonneg_left hb.2 (by unfold per; split <;> omega)
   ·exact Int.le_refl _
  have nn : ∀ k, k < 3 → 0 ≤ sumBy (ask1 k j) (L k) := fun k hk => (sumBy_ge fun y hy => by
   have := mu_bounds ((h.bk k hk).1 y hy)
   unfold ask1 dl
   split <;> omega).1
  have n0 := nn 0 (by decide)
  have n1 := nn 1 (by decide)
  have n2 := nn 2 (by decide)
  have : i = 0 ∨ i = 1 ∨ i = 2 := by omega
  unfold asked
  rcases this with rfl | rfl | rfl <;> omega
theorem FOk.settled {L : Nat → List Lot} {f : Nat → Int} (h : FOk L f) {i : Nat} (hi : i < 3) {price : Int} {F : List (Int × Int)} (hF : Fil (L i) price F)
  (hg : Pu.Good (sett f i price (L i) F)) (hc : cashes (sett f i price (L i) F) 6 = cashes f 6) (hs : ∀ k, k < 3 → stocks (sett f i price (L i) F) k 6 = stocks f k 6) : FOk (upd L i (restL F (L i))) (sett f i price (L i) F) := by
 refine ⟨fun k hk => ?_, hg, fun j hj => ?_, by rw [hc]; exact h.cash, fun k hk => by rw [hs k hk]; exact h.stock k hk⟩
 ·by_cases e : k = i
  ·subst e; rw [upd_same]; exact good_rem (h.bk k hk) fun x hx => (hF.le x hx).1
  ·rw [upd_ne _ _ e]; exact h.bk k hk
 ·rw [asked_upd L hi, ask_own, ask_own]
  unfold restL sett
  rw [sum_rem (lin_ask i j) (fun x hx => (hF.le x hx).2), h.held j hj]
  have : sumBy (fun x => eff i price j x (got x.id F)) (L i) = - sumBy (fun x => askq i j x (got x.id F)) (L i) := by
   have e : sumBy (fun x => eff i price j x (got x.id F) + askq i j x (got x.id F)) (L i) = 0 := sumBy_zero fun x _ => by rw [eff_held hi hj]; omega
   rw [sumBy_add] at e
   omega
  rw [this]
  omega
end Fs
theorem upd_upd {α : Type} (f : Nat → α) (i : Nat) (x y : α) : upd (upd f i x) i y = upd f i y := by
 funext j; unfold upd; split <;> rfl
theorem upd_self {α : Type} (f : Nat → α) (i : Nat) : upd f i (f i) = f := by
 funext j; unfold upd; split
 ·rename_i h; rw [h]
 ·rfl
namespace Bk
def idsOf (l : List Cv.Lot) (ow : Int) : List Int := (l.filter fun x => x.ow == ow).map (·.id)
end Bk
namespace Fl
def lot (a : Ask) : Cv.Lot := ⟨a.id, a.c, a.sd, a.pr, a.q⟩
def kindN (a : Ask) (k : Int) : Int := if Wi.code a.k a.c a.sq a.it a.sd a.pr a.q a.id = 0 ∧ a.k ≠ k then 4 else Wi.code a.k a.c a.sq a.it a.sd a.pr a.q a.id
def placeC (L : Nat → List Cv.Lot) (pf : Nat → Int) (a : Ask) : Nat :=
 if kindN a 111 = 0 then (if Cv.ok (lot a) = true then (if Cv.has (L a.it.toNat) a.id = true then 6 else if 60 ≤ (L a.it.toNat).length then 7 else Pu.holdC pf a.it (lot a)) else 1) else (kindN a 111 - 1).toNat
def placeL (L : Nat → List Cv.Lot) (pf : Nat → Int) (a : Ask) : Nat → List Cv.Lot := if placeC L pf a = 0 then upd L a.it.toNat (L a.it.toNat ++ [lot a]) else L
def placeF (L : Nat → List Cv.Lot) (pf : Nat → Int) (a : Ask) : Nat → Int := if placeC L pf a = 0 then Pu.holdF pf a.it (lot a) else pf
theorem kindN_zero {a : Ask} {k : Int} (h : kindN a k = 0) : a.k = k ∧ Wi.boundB a.k a.c a.sq a.it a.sd a.pr a.q a.id = true ∧ Wi.shapeB a.k a.it a.sd a.pr a.q a.id = true := by
 unfold kindN at h
 split at h
 ·cases h
 ·rename_i hn
  have hc : Wi.code a.k a.c a.sq a.it a.sd a.pr a.q a.id = 0 := by omega
  refine ⟨Decidable.byContradiction fun e => hn ⟨hc, e⟩, ?_, ?_⟩
  ·unfold Wi.code at hc
   split at hc
   ·split at hc
    ·assumption
    ·cases hc
   ·cases hc
  ·unfold Wi.code at hc
   split at hc
   ·split at hc
    ·split at hc
     ·assumption
     ·cases hc
    ·cases hc
   ·cases hc
theorem kindN_pos {a : Ask} {k : Int} (h : kindN a k ≠ 0) : 2 ≤ kindN a k := by
 unfold kindN at *
 split
 ·decide
 ·rename_i hn
  rw [if_neg hn] at h
  have : Wi.code a.k a.c a.sq a.it a.sd a.pr a.q a.id = 0 ∨ 2 ≤ Wi.code a.k a.c a.sq a.it a.sd a.pr a.q a.id := by
   unfold Wi.code; split <;> (try split) <;> (try split) <;> omega
  omega
theorem place_item {a : Ask} (h : kindN a 111 = 0) : 0 ≤ a.it ∧ a.it ≤ 2 := by
 obtain ⟨h1, h2, _⟩ := kindN_zero h
 rw [h1] at h2
 simp [Wi.boundB, Wi.withinB] at h2
 omega
def mine (L : Nat → List Cv.Lot) (a : Ask) : Bool := Cv.has (L a.it.toNat) a.id && ((Cv.nth (L a.it.toNat) (Bk.pos (L a.it.toNat) a.id)).ow == a.c)
def canX (L : Nat → List Cv.Lot) (a : Ask) : Cv.Lot := if kindN a 99 = 0 ∧ mine L a = true then Cv.nth (L a.it.toNat) (Bk.pos (L a.it.toNat) a.id) else Cv.z
def canC (L : Nat → List Cv.Lot) (pf : Nat → Int) (a : Ask) : Nat :=
 if kindN a 99 = 0 then (if mine L a = true then Pu.freeC pf a.it (canX L a) else 5) else (kindN a 99 - 1).toNat
def canL (L : Nat → List Cv.Lot) (a : Ask) : Nat → List Cv.Lot := if kindN a 99 = 0 ∧ mine L a = true then upd L a.it.toNat (Bk.del (L a.it.toNat) (Bk.pos (L a.it.toNat) a.id)) else L
def canF (L : Nat → List Cv.Lot) (pf : Nat → Int) (a : Ask) : Nat → Int := if kindN a 99 = 0 ∧ mine L a = true then Pu.freeF pf a.it (canX L a) else pf
theorem cancel_item {a : Ask} (h : kindN a 99 = 0) : 0 ≤ a.it ∧ a.it ≤ 2 := by
 obtain ⟨h1, h2, _⟩ := kindN_zero h
 rw [h1] at h2
 simp [Wi.boundB, Wi.withinB] at h2
 omega
def dropStep (i : Nat) (s : List Cv.Lot × (Nat → Int) × List Cv.Lot) (id : Int) : List Cv.Lot × (Nat → Int) × List Cv.Lot :=
 (Bk.canL s.1 id, Pu.freeF s.2.1 i (Bk.canX s.1 id), s.2.2 ++ [Bk.canX s.1 id])
def dropI (i : Nat) (l : List Cv.Lot) (f : Nat → Int) (o : List Cv.Lot) (ids : List Int) : List Cv.Lot × (Nat → Int) × List Cv.Lot := ids.foldl (dropStep i) (l, f, o)
theorem dropI_snoc (i : Nat) (l : List Cv.Lot) (f : Nat → Int) (o : List Cv.Lot) (ids : List Int) (id : Int) : dropI i l f o (ids ++ [id]) = dropStep i (dropI i l f o ids) id := by
 simp [dropI, List.foldl_append]
def dropTo (c : Int) (L : Nat → List Cv.Lot) (f : Nat → Int) : Nat → (Nat → List Cv.Lot) × (Nat → Int) × List Cv.Lot
 | 0 => (L, f, [])
 | i + 1 =>
  (upd (dropTo c L f i).1 i (dropI i ((dropTo c L f i).1 i) (dropTo c L f i).2.1 (dropTo c L f i).2.2 (Bk.idsOf ((dropTo c L f i).1 i) c)).1,
   (dropI i ((dropTo c L f i).1 i) (dropTo c L f i).2.1 (dropTo c L f i).2.2 (Bk.idsOf ((dropTo c L f i).1 i) c)).2.1,
   (dropI i ((dropTo c L f i).1 i) (dropTo c L f i).2.1 (dropTo c L f i).2.2 (Bk.idsOf ((dropTo c L f i).1 i) c)).2.2)
def gift (cash stock : Int) : Nat → Nat → Int
 | 0 => fun _ => 0
 | k + 1 => Pu.giveF (gift cash stock k) ⟨k, cash, stock, stock, stock⟩
theorem good_gift (cash stock : Int) : ∀ k, Pu.Good (gift cash stock k)
 | 0 => Pu.good_zero
 | k + 1 => Pu.good_give (good_gift cash stock k) _
def bands (ref : Int) (k : Nat) : Int := if k % 2 = 0 then ref else 0

open Cv Bk Ra Pu Fu Fs
theorem _root_.Go.Proofs.YtdggddjgipgllaaGreatDoor.Fs.FOk.place {L : Nat → List Lot} {f : Nat → Int} (h : FOk L f) (a : Ask) : FOk (placeL L f a) (placeF L f a) := by
 unfold placeL placeF
 by_cases hc : placeC L f a = 0
 ·rw [if_pos hc, if_pos hc]
  unfold placeC at hc
  split at hc
  ·rename_i hk
   have hit := place_item hk
   split at hc
   ·rename_i hok
    split at hc
    ·cases hc
    ·rename_i hn
     split at hc
     ·cases hc
     ·rename_i hl
      have hi : a.it.toNat < 3 := by omega
      have he : ((a.it.toNat : Nat) : Int) = a.it := by omega
      have hF : holdF f a.it (lot a) = Pu.add f (hx a.it (lot a)) (mu (lot a)) := by unfold holdF; rw [if_pos hc]
      have hs := hold_sums f a.it (lot a) 6
      refine ⟨fun k hk => ?_, good_hold h.good _ _, ?_, by rw [hs.1]; exact h.cash, fun k hk => by rw [hs.2 k hk]; exact h.stock k hk⟩
      ·by_cases e : k = a.it.toNat
       ·subst e; rw [upd_same]
        exact good_add (h.bk _ hi) hok (by simpa [lot] using hn) (by omega)
       ·rw [upd_ne _ _ e]; exact h.bk k hk
      ·have := held_place h.held hi (lot a)
       rw [he, ← hF] at this
       exact this
   ·cases hc
  ·rename_i hk
   have := kindN_pos hk
   omega
 ·rw [if_neg hc, if_neg hc]; exact h
theorem free_ok {L : Nat → List Lot} {f : Nat → Int} (h : FOk L f) {i : Nat} (hi : i < 3) {x : Lot} (hx' : x ∈ L i) : freeC f i x = 0 := by
 have := held_ge h.held (fun j hj => (h.bk j hj).oks) hi hx'
 unfold freeC
 rw [if_pos (well_of hi ((h.bk i hi).oks x hx')), if_neg (by omega)]
theorem _root_.Go.Proofs.YtdggddjgipgllaaGreatDoor.Fs.FOk.gone {L : Nat → List Lot} {f : Nat → Int} (h : FOk L f) {i : Nat} (hi : i < 3) {k : Nat} (hk : k < (L i).length) : FOk (upd L i (del (L i) k)) (freeF f i (nth (L i) k)) := by
 have hc := free_ok h hi (Cv.nth_mem hk)
 have hF : freeF f i (nth (L i) k) = Pu.add f (hx i (nth (L i) k)) (-(mu (nth (L i) k))) := by unfold freeF; rw [if_pos hc]
 have hs := free_sums f i (nth (L i) k) 6
 refine ⟨fun m hm => ?_, good_free h.good _ _, ?_, by rw [hs.1]; exact h.cash, fun m hm => by rw [hs.2 m hm]; exact h.stock m hm⟩
 ·by_cases e : m = i
  ·subst e; rw [upd_same]; exact good_del (h.bk _ hi) hk
  ·rw [upd_ne _ _ e]; exact h.bk m hm
 ·rw [hF]; exact held_cancel h.held hi hk
theorem can_zero {L : Nat → List Lot} {f : Nat → Int} (h : FOk L f) {a : Ask} (hk : kindN a 99 = 0) (hm : mine L a = true) : canC L f a = 0 ∧ pos (L a.it.toNat) a.id < (L a.it.toNat).length ∧ a.it.toNat < 3 := by
 have hit := cancel_item hk
 have hi : a.it.toNat < 3 := by omega
 have he : ((a.it.toNat : Nat) : Int) = a.it := by omega
 have hh : has (L a.it.toNat) a.id = true := by
  unfold mine at hm
  simp only [Bool.and_eq_true] at hm
  exact hm.1
 have hp := pos_has.1 hh
 have := free_ok h hi (Cv.nth_mem hp)
 rw [he] at this
 refine ⟨?_, hp, hi⟩
 unfold canC canX
 rw [if_pos hk, if_pos hm, if_pos ⟨hk, hm⟩]
 exact this
theorem _root_.Go.Proofs.YtdggddjgipgllaaGreatDoor.Fs.FOk.cancel {L : Nat → List Lot} {f : Nat → Int} (h : FOk L f) (a : Ask) : FOk (canL L a) (canF L f a) := by
 unfold canL canF
 by_cases hc : kindN a 99 = 0 ∧ mine L a = true
 ·rw [if_pos hc, if_pos hc]
  obtain ⟨_, hp, hi⟩ := can_zero h hc.1 hc.2
  have he : ((a.it.toNat : Nat) : Int) = a.it := by have := cancel_item hc.1; omega
  have := h.gone hi hp
  rw [he] at this
  have hx' : canX L a = nth (L a.it.toNat) (pos (L a.it.toNat) a.id) := by unfold canX; rw [if_pos hc]
  rw [hx']
  exact this
 ·rw [if_neg hc, if_neg hc]; exact h
end Fl
end Go.Proofs.YtdggddjgipgllaaGreatDoor
namespace Go.Proofs.YtdggddjgipgllaaGreatDoor
open Go.RowKit
set_option maxRecDepth 100000

set_option maxHeartbeats 400000 in
theorem in_any (x lo hi : Int) (w : World) :
  Calls Tryz.prog 101 #[.int .i64 x, .int .i64 lo, .int .i64 hi] w fun e w' => e = .returned (.bool (Wi.withinB x lo hi)) ∧ w' = w := by
 by_cases h : lo ≤ x
 ·go_enter Tryz.func101, Tryz.ntmps101
  go_wp2
  go_ret
  exact ⟨ret_bool (by simp [Wi.withinB, h]), rfl⟩
 ·have h' : decide (lo ≤ x) = false := by simpa using h
  go_enter Tryz.func101, Tryz.ntmps101
  go_wp2
  go_ret
  exact ⟨ret_bool (by simp [Wi.withinB, h']), rfl⟩

set_option maxHeartbeats 4000000 in
theorem askError_any (k c sq it sd pr q id : Int) (w : World) :
  Calls Tryz.prog 100 #[.agg #[.int .u8 k, .int .i64 c, .int .i64 sq, .int .i64 it, .int .i64 sd, .int .i64 pr, .int .i64 q, .int .i64 id]] w fun e w' => e = .returned (.int .i64 (Wi.code k c sq it sd pr q id)) ∧ Below w.heap.size w w' := by
 go_enter Tryz.func100, Tryz.ntmps100
 go_wp2_with (go_at_call 101; refine (in_any _ _ _ _).mono ?_; rintro e w' ⟨rfl, rfl⟩)
 all_goals go_ret
 all_goals
  refine ⟨ret_int ?_, bal⟩
 all_goals
  go_light
  try simp only [Wi.withinB, Bool.and_eq_true, decide_eq_true_eq, Bool.not_eq_true', Bool.and_eq_false_iff, decide_eq_false_iff_not, Bool.not_eq_false', bne_iff_ne, ne_eq, beq_iff_eq, bne_eq_false_iff_eq, not_and, beq_eq_false_iff_ne] at *
  simp only [Wi.code, Wi.kindB, Wi.boundB, Wi.shapeB, Wi.withinB, Bool.or_eq_true, Bool.and_eq_true, beq_iff_eq, decide_eq_true_eq]
  repeat' split
  all_goals first | omega | (simp_all; done) | (simp only [Bool.and_eq_true, decide_eq_true_eq] at *; omega) | (simp_all; omega)
end Go.Proofs.YtdggddjgipgllaaGreatDoor
namespace Go.Proofs.YtdggddjgipgllaaGreatDoor
namespace Fl
open Cv Bk Ra Pu Fu Fs
def keepL (c : Int) (l : List Lot) (k : Nat) : List Lot := (l.take k).filter (fun x => !(x.ow == c)) ++ l.drop k
def outL (c : Int) (l : List Lot) (k : Nat) : List Lot := (l.take k).filter (fun x => x.ow == c)
def freeAll (i : Nat) (f : Nat → Int) (xs : List Lot) : Nat → Int := xs.foldl (fun f x => freeF f i x) f
theorem take_snoc {l : List Lot} {k : Nat} (h : k < l.length) : l.take (k + 1) = l.take k ++ [nth l k] := by
 rw [List.take_succ_eq_append_getElem h, nth_get h]
theorem drop_cons {l : List Lot} {k : Nat} (h : k < l.length) : l.drop k = nth l k :: l.drop (k + 1) := by
 rw [nth_get h]; exact (List.getElem_cons_drop h).symm
theorem keep_zero (c : Int) (l : List Lot) : keepL c l 0 = l := by simp [keepL]
theorem keep_all (c : Int) {l : List Lot} {k : Nat} (h : l.length ≤ k) : keepL c l k = l.filter (fun x => !(x.ow == c)) := by
 unfold keepL; rw [List.take_of_length_le h, List.drop_of_length_le h, List.append_nil]
theorem out_all (c : Int) {l : List Lot} {k : Nat} (h : l.length ≤ k) : outL c l k = l.filter (fun x => x.ow == c) := by
 unfold outL; rw [List.take_of_length_le h]
theorem keep_other {c : Int} {l : List Lot} {k : Nat} (h : k < l.length) (hc : (nth l k).ow ≠ c) : keepL c l (k + 1) = keepL c l k ∧ outL c l (k + 1) = outL c l k := by
 have hb : ((nth l k).ow == c) = false := by simpa using hc
 constructor
 ·unfold keepL
  rw [take_snoc h, List.filter_append, drop_cons h, List.filter_cons, hb]
  simp
 ·unfold outL
  rw [take_snoc h, List.filter_append, List.filter_cons, hb]
  simp
theorem keep_mine {c : Int} {l : List Lot} (ho : Once l) {k : Nat} (h : k < l.length) (hc : (nth l k).ow = c) :
  Bk.canL (keepL c l k) (nth l k).id = keepL c l (k + 1) ∧ outL c l (k + 1) = outL c l k ++ [nth l k] ∧ nth (keepL c l k) (pos (keepL c l k) (nth l k).id) = nth l k ∧ pos (keepL c l k) (nth l k).id < (keepL c l k).length := by
 have hb : ((nth l k).ow == c) = true := by simpa using hc
 obtain ⟨ha, _⟩ := once_split ho h
 have hno : has ((l.take k).filter (fun x => !(x.ow == c))) (nth l k).id = false := by
  cases hh : has ((l.take k).filter (fun x => !(x.ow == c))) (nth l k).id with
  | false => rfl
  | true =>
   unfold has at hh
   rw [List.any_eq_true] at hh
   obtain ⟨x, hx, he⟩ := hh
   exact absurd (by simpa using he) (ha x (List.mem_filter.1 hx).1)
 have hk : keepL c l k = (l.take k).filter (fun x => !(x.ow == c)) ++ nth l k :: l.drop (k + 1) := by unfold keepL; rw [drop_cons h]
 have hk1 : keepL c l (k + 1) = (l.take k).filter (fun x => !(x.ow == c)) ++ l.drop (k + 1) := by
  unfold keepL; rw [take_snoc h, List.filter_append, List.filter_cons, hb]; simp
 have hout : outL c l (k + 1) = outL c l k ++ [nth l k] := by
  unfold outL; rw [take_snoc h, List.filter_append, List.filter_cons, hb]; simp
 rw [hk, hk1]
 generalize (l.take k).filter (fun x => !(x.ow == c)) = A at *
 generalize l.drop (k + 1) = B at *
 generalize nth l k = x at *
 have hp : pos (A ++ x :: B) x.id = A.length := by
  unfold pos
  have h0 : A.findIdx (fun y => y.id == x.id) = A.length := pos_hasnt.1 hno
  rw [List.findIdx_append, h0, if_neg (by omega)]
  simp [List.findIdx_cons]
 have hh : has (A ++ x :: B) x.id = true := by unfold has; simp
 have hc0 : Bk.canC (A ++ x :: B) x.id = 0 := by unfold Bk.canC; rw [if_pos hh]
 refine ⟨?_, hout, ?_, by rw [hp]; simp⟩
 ·unfold Bk.canL del
  rw [if_pos hc0, hp]
  simp
 ·rw [hp]; unfold nth; simp
theorem drop_one {L : Nat → List Lot} {f : Nat → Int} {i : Nat} (hi : i < 3) {l : List Lot} {c : Int} {k : Nat} (H : FOk (upd L i (keepL c l k)) f) (ho : Once l) (hk : k < l.length) (hc : (nth l k).ow = c) : FOk (upd L i (keepL c l (k + 1))) (freeF f i (nth l k)) := by
 obtain ⟨h1, _, h3, h4⟩ := keep_mine ho hk hc
 have hh : has (keepL c l k) (nth l k).id = true := pos_has.2 h4
 have hc0 : Bk.canC (keepL c l k) (nth l k).id = 0 := by unfold Bk.canC; rw [if_pos hh]
 have e : Bk.canL (keepL c l k) (nth l k).id = del (keepL c l k) (pos (keepL c l k) (nth l k).id) := by unfold Bk.canL; rw [if_pos hc0]
 have := H.gone hi (k := pos (keepL c l k) (nth l k).id) (by rw [upd_same]; exact h4)
 rw [upd_same, h3, upd_upd, ← e, h1] at this
 exact this
def dL (c : Int) (L : Nat → List Lot) : Nat → Nat → List Lot
 | 0 => L
 | i + 1 => upd (dL c L i) i ((L i).filter (fun x => !(x.ow == c)))
def dF (c : Int) (L : Nat → List Lot) (f : Nat → Int) : Nat → Nat → Int
 | 0 => f
 | i + 1 => freeAll i (dF c L f i) ((L i).filter (fun x => x.ow == c))
def dO (c : Int) (L : Nat → List Lot) : Nat → List Lot
 | 0 => []
 | i + 1 => dO c L i ++ (L i).filter (fun x => x.ow == c)
theorem dL_at (c : Int) (L : Nat → List Lot) : ∀ i j, i ≤ j → dL c L i j = L j
 | 0, _, _ => rfl
 | i + 1, j, h => by
  show upd (dL c L i) i _ j = L j
  rw [upd_ne _ _ (by omega), dL_at c L i j (by omega)]
theorem dO_len (c : Int) (L : Nat → List Lot) (h : ∀ i, i < 3 → (L i).length ≤ 60) : ∀ i, i ≤ 3 → (dO c L i).length ≤ 60 * i
 | 0, _ => Nat.le_refl _
 | i + 1, hi => by
  have ih := dO_len c L h i (by omega)
  have h1 := h i (by omega)
  have h2 := List.length_filter_le (fun x : Lot => x.ow == c) (L i)
  show (dO c L i ++ _).length ≤ _
  rw [List.length_append]; omega
end Fl
namespace Fl
open Cv Bk Ra Pu Fu Fs
end Fl
namespace Fl
open Cv Bk Ra Pu Fu Fs
theorem idsOf_snoc (a : List Lot) (x : Lot) (c : Int) : Bk.idsOf (a ++ [x]) c = Bk.idsOf a c ++ (if x.ow == c then [x.id] else []) := by
 unfold Bk.idsOf
 rw [List.filter_append, List.map_append, List.filter_cons]
 split <;> simp
theorem freeAll_snoc (i : Nat) (f : Nat → Int) (xs : List Lot) (x : Lot) : freeAll i f (xs ++ [x]) = freeF (freeAll i f xs) i x := by
 unfold freeAll; rw [List.foldl_append]; rfl
theorem dropI_to {l : List Lot} (ho : Once l) (c : Int) (i : Nat) (f : Nat → Int) (o : List Lot) : ∀ k, k ≤ l.length → dropI i l f o (Bk.idsOf (l.take k) c) = (keepL c l k, freeAll i f (outL c l k), o ++ outL c l k)
 | 0, _ => by
  rw [keep_zero]
  simp [Bk.idsOf, dropI, freeAll, outL]
 | k + 1, h => by
  have hk : k < l.length := by omega
  have ih := dropI_to ho c i f o k (by omega)
  rw [take_snoc hk, idsOf_snoc]
  by_cases hc : (nth l k).ow = c
  ·obtain ⟨h1, h2, h3, h4⟩ := keep_mine ho hk hc
   have hh : has (keepL c l k) (nth l k).id = true := pos_has.2 h4
   have hc0 : Bk.canC (keepL c l k) (nth l k).id = 0 := by unfold Bk.canC; rw [if_pos hh]
   have e : Bk.canX (keepL c l k) (nth l k).id = nth l k := by unfold Bk.canX; rw [if_pos hc0, h3]
   rw [if_pos (by simpa using hc), dropI_snoc, ih]
   unfold dropStep
   simp only []
   rw [h1, e, h2, freeAll_snoc, List.append_assoc]
  ·obtain ⟨h1, h2⟩ := keep_other hk hc
   rw [if_neg (by simpa using hc), List.append_nil, ih, h1, h2]
theorem dropI_all {l : List Lot} (ho : Once l) (c : Int) (i : Nat) (f : Nat → Int) (o : List Lot) : dropI i l f o (Bk.idsOf l c) = (l.filter (fun x => !(x.ow == c)), freeAll i f (l.filter (fun x => x.ow == c)), o ++ l.filter (fun x => x.ow == c)) := by
 have := dropI_to ho c i f o l.length (Nat.le_refl _)
 rw [List.take_length, keep_all c (Nat.le_refl _), out_all c (Nat.le_refl _)] at this
 exact this
theorem dropTo_is (c : Int) (L : Nat → List Lot) (f : Nat → Int) (ho : ∀ i, i < 3 → Once (L i)) : ∀ i, i ≤ 3 → dropTo c L f i = (dL c L i, dF c L f i, dO c L i)
 | 0, _ => rfl
 | i + 1, h => by
  have ih := dropTo_is c L f ho i (by omega)
  rw [dropTo, ih]
  simp only []
  rw [dL_at c L i i (Nat.le_refl _), dropI_all (ho i (by omega))]
  rfl
end Fl
end Go.Proofs.YtdggddjgipgllaaGreatDoor
