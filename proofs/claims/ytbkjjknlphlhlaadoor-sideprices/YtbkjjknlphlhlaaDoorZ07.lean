/- One price of lots: the three rounds in which the document's answer finds it; lots whose prices are all greater by one number, the other way round; no program is spoken of. -/
import Derived.Laws.ResultCell
import Derived.Deep.RegionLaw
import Derived.Test.YtbkjjknlphlhlaaDoorZ06
namespace Go.Proofs.YtbkjjknlphlhlaaDoor
namespace Cv

/-- the first round: what is traded at most -/
def Most (l : List Lot) (n m : Int) : Prop := 0 ≤ m ∧ (∀ q, 1 ≤ q → q ≤ n → volume l q ≤ m) ∧ (m = 0 ∨ ∃ q, 1 ≤ q ∧ q ≤ n ∧ volume l q = m)
/-- the second round: what is left at least, where that is traded -/
def Least (l : List Lot) (m n s : Int) : Prop :=
  (s = -1 ∧ ∀ q, 1 ≤ q → q ≤ n → volume l q ≠ m) ∨ (0 ≤ s ∧ (∃ q, 1 ≤ q ∧ q ≤ n ∧ volume l q = m ∧ left l q = s) ∧ ∀ q, 1 ≤ q → q ≤ n → volume l q = m → s ≤ left l q)
/-- the third round: the nearest of these, from above -/
def Near (l : List Lot) (m s ref n b : Int) : Prop :=
  (b = 0 ∧ ∀ q, n < q → q ≤ 1000 → ¬ (volume l q = m ∧ left l q = s)) ∨
  (n < b ∧ b ≤ 1000 ∧ volume l b = m ∧ left l b = s ∧ ∀ q, n < q → q ≤ 1000 → volume l q = m → left l q = s → away ref b < away ref q ∨ away ref b = away ref q ∧ b ≤ q)

theorem Most.start (l : List Lot) : Most l 0 0 := ⟨by omega, fun q h1 h2 => by omega, .inl rfl⟩
theorem Most.take {l : List Lot} {n m : Int} (hn : 0 ≤ n) (h : Most l n m) (hv : m < volume l (n + 1)) : Most l (n + 1) (volume l (n + 1)) := by
  obtain ⟨h1, h2, h3⟩ := h
  refine ⟨by omega, fun q q1 q2 => ?_, .inr ⟨n + 1, by omega, by omega, rfl⟩⟩
  by_cases e : q = n + 1
  · rw [e]; omega
  · have := h2 q q1 (by omega); omega
theorem Most.keep {l : List Lot} {n m : Int} (h : Most l n m) (hv : ¬ m < volume l (n + 1)) : Most l (n + 1) m := by
  obtain ⟨h1, h2, h3⟩ := h
  refine ⟨h1, fun q q1 q2 => ?_, ?_⟩
  · by_cases e : q = n + 1
    · rw [e]; omega
    · exact h2 q q1 (by omega)
  · rcases h3 with h3 | ⟨q, q1, q2, q3⟩
    · exact .inl h3
    · exact .inr ⟨q, q1, by omega, q3⟩
theorem Least.start (l : List Lot) (m : Int) : Least l m 0 (-1) := .inl ⟨rfl, fun q h1 h2 => by omega⟩
theorem Least.range {l : List Lot} {m n s : Int} (h : Least l m n s) : -1 ≤ s := by
  rcases h with ⟨h1, _⟩ | ⟨h1, _⟩ <;> omega
theorem Least.take {l : List Lot} {m n s : Int} (hn : 0 ≤ n) (h : Least l m n s) (hv : volume l (n + 1) = m) (hs : s < 0 ∨ left l (n + 1) < s) : Least l m (n + 1) (left l (n + 1)) := by
  have s0 : 0 ≤ left l (n + 1) := size_nonneg _
  refine .inr ⟨s0, ⟨n + 1, by omega, by omega, hv, rfl⟩, fun q q1 q2 q3 => ?_⟩
  by_cases e : q = n + 1
  · rw [e]; omega
  · rcases h with ⟨h1, h2⟩ | ⟨h1, h2, h3⟩
    · exact absurd q3 (h2 q q1 (by omega))
    · have := h3 q q1 (by omega) q3; omega
theorem Least.keep {l : List Lot} {m n s : Int} (h : Least l m n s) (hk : ¬ (volume l (n + 1) = m ∧ (s < 0 ∨ left l (n + 1) < s))) : Least l m (n + 1) s := by
  rcases h with ⟨h1, h2⟩ | ⟨h1, ⟨q0, a1, a2, a3, a4⟩, h3⟩
  · refine .inl ⟨h1, fun q q1 q2 => ?_⟩
    by_cases e : q = n + 1
    · rw [e]; omega
    · exact h2 q q1 (by omega)
  · refine .inr ⟨h1, ⟨q0, a1, by omega, a3, a4⟩, fun q q1 q2 q3 => ?_⟩
    by_cases e : q = n + 1
    · rw [e] at q3 ⊢; omega
    · exact h3 q q1 (by omega) q3
theorem Near.start (l : List Lot) (m s ref : Int) : Near l m s ref 1000 0 := .inl ⟨rfl, fun q h1 h2 => by omega⟩
theorem Near.range {l : List Lot} {m s ref n b : Int} (hn : 0 ≤ n) (h : Near l m s ref n b) : 0 ≤ b ∧ b ≤ 1000 := by
  rcases h with ⟨h1, _⟩ | ⟨h1, h2, _⟩ <;> omega
theorem Near.pass {l : List Lot} {m s ref n b : Int} (h : Near l m s ref n b) (hv : ¬ (volume l n = m ∧ left l n = s)) : Near l m s ref (n - 1) b := by
  rcases h with ⟨h1, h2⟩ | ⟨h1, h2, h3, h4, h5⟩
  · refine .inl ⟨h1, fun q q1 q2 => ?_⟩
    by_cases e : q = n
    · rw [e]; exact hv
    · exact h2 q (by omega) q2
  · refine .inr ⟨by omega, h2, h3, h4, fun q q1 q2 q3 q4 => ?_⟩
    by_cases e : q = n
    · rw [e] at q3 q4; exact absurd ⟨q3, q4⟩ hv
    · exact h5 q (by omega) q2 q3 q4
theorem Near.take {l : List Lot} {m s ref n b : Int} (h0 : 0 ≤ n) (hn : n ≤ 1000) (h : Near l m s ref n b) (hv : volume l n = m) (hs : left l n = s) (ha : b = 0 ∨ away ref n ≤ away ref b) : Near l m s ref (n - 1) n := by
  refine .inr ⟨by omega, hn, hv, hs, fun q q1 q2 q3 q4 => ?_⟩
  by_cases e : q = n
  · rw [e]; omega
  · rcases h with ⟨h1, h2⟩ | ⟨h1, h2, h3, h4, h5⟩
    · exact absurd ⟨q3, q4⟩ (h2 q (by omega) q2)
    · have := h5 q (by omega) q2 q3 q4; omega
theorem Near.keep {l : List Lot} {m s ref n b : Int} (h : Near l m s ref n b) (ha : ¬ (b = 0 ∨ away ref n ≤ away ref b)) : Near l m s ref (n - 1) b := by
  rcases h with ⟨h1, h2⟩ | ⟨h1, h2, h3, h4, h5⟩
  · omega
  · refine .inr ⟨by omega, h2, h3, h4, fun q q1 q2 q3 q4 => ?_⟩
    by_cases e : q = n
    · rw [e]; omega
    · exact h5 q (by omega) q2 q3 q4

theorem won_none {l : List Lot} {ref : Int} (hl : Oks l) (h : Most l 1000 0) : Won l ref 1000 0 0 :=
  .inl ⟨rfl, rfl, fun q q1 q2 => by have := h.2.1 q q1 q2; have := volume_nonneg l hl q; omega⟩
theorem won_rounds {l : List Lot} {ref m s b : Int} (h : Most l 1000 m) (hm : m ≠ 0) (hs : Least l m 1000 s) (hb : Near l m s ref 0 b) : Won l ref 1000 b m := by
  obtain ⟨m0, m1, m2⟩ := h
  rcases hs with ⟨h1, h2⟩ | ⟨h1, ⟨q0, a1, a2, a3, a4⟩, h3⟩
  · rcases m2 with m2 | ⟨q, q1, q2, q3⟩
    · exact absurd m2 hm
    · exact absurd q3 (h2 q q1 q2)
  · rcases hb with ⟨b1, b2⟩ | ⟨b1, b2, b3, b4, b5⟩
    · exact absurd ⟨a3, a4⟩ (b2 q0 (by omega) a2)
    · refine .inr ⟨by omega, by omega, b2, b3, fun q q1 q2 => ?_⟩
      have x1 := m1 q q1 q2
      by_cases e : volume l q = m
      · have x2 := h3 q q1 q2 e
        by_cases e2 : left l q = s
        · have x3 := b5 q (by omega) q2 e e2
          omega
        · omega
      · omega

/-- all prices greater by one number, in the other order -/
def shift (d : Int) (x : Lot) : Lot := ⟨x.id, x.ow, x.sd, x.pr + d, x.q⟩
def up (d : Int) (l : List Lot) : List Lot := (l.map (shift d)).reverse
theorem sumIf_reverse (f : Lot → Bool) : ∀ l : List Lot, sumIf f l.reverse = sumIf f l
  | [] => rfl
  | x :: l => by
    rw [List.reverse_cons, sumIf_append, sumIf_reverse f l]
    simp only [sumIf]
    omega
theorem sumIf_map (f : Lot → Bool) (d : Int) : ∀ l : List Lot, sumIf f (l.map (shift d)) = sumIf (fun x => f (shift d x)) l
  | [] => rfl
  | x :: l => by
    simp only [List.map_cons, sumIf, sumIf_map f d l]
    rfl
theorem demand_up (d : Int) (l : List Lot) (p : Int) : demand (up d l) (p + d) = demand l p := by
  unfold demand up
  rw [sumIf_reverse, sumIf_map]
  refine sumIf_congr l fun x _ => ?_
  have e : (p + d ≤ x.pr + d) = (p ≤ x.pr) := propext ⟨fun h => by omega, fun h => by omega⟩
  simp [dB, shift]
theorem supply_up (d : Int) (l : List Lot) (p : Int) : supply (up d l) (p + d) = supply l p := by
  unfold supply up
  rw [sumIf_reverse, sumIf_map]
  refine sumIf_congr l fun x _ => ?_
  simp [sB, shift]
theorem volume_up (d : Int) (l : List Lot) (p : Int) : volume (up d l) (p + d) = volume l p := by
  unfold volume; rw [demand_up, supply_up]
theorem left_up (d : Int) (l : List Lot) (p : Int) : left (up d l) (p + d) = left l p := by
  unfold left; rw [demand_up, supply_up]
theorem away_up (d ref p : Int) : away (ref + d) (p + d) = away ref p := by
  unfold away; rw [show p + d - (ref + d) = p - ref by omega]

theorem well_iff (l : List Lot) : Well l ↔ l.length ≤ 120 ∧ Oks l ∧ (l.map (·.id)).Nodup := by
  have hnth : ∀ i (hi : i < l.length), nth l i = l[i] := fun i hi => by unfold nth; rw [List.getD_eq_getElem?_getD, List.getElem?_eq_getElem hi]; rfl
  constructor
  · intro h
    refine ⟨h.1, h.oks, ?_⟩
    rw [List.Nodup, List.pairwise_iff_getElem]
    intro i j hi hj hij
    rw [List.length_map] at hi hj
    have := h.2 j hj
    simp only [okAt, Bool.and_eq_true, Bool.not_eq_true'] at this
    have h2 := this.2
    unfold has at h2
    rw [List.any_eq_false] at h2
    have h3 := h2 l[i] (List.mem_take_iff_getElem.2 ⟨i, by omega, rfl⟩)
    rw [hnth j hj] at h3
    simpa using h3
  · rintro ⟨h1, h2, h3⟩
    refine ⟨h1, fun j hj => ?_⟩
    rw [List.Nodup, List.pairwise_iff_getElem] at h3
    simp only [okAt, Bool.and_eq_true, Bool.not_eq_true']
    refine ⟨h2 _ (nth_mem hj), ?_⟩
    unfold has
    rw [List.any_eq_false]
    intro x hx
    obtain ⟨i, hi, rfl⟩ := List.mem_take_iff_getElem.1 hx
    have := h3 i j (by rw [List.length_map]; omega) (by rw [List.length_map]; omega) (by omega)
    rw [hnth j hj]
    simpa using this
theorem well_up {d : Int} {l : List Lot} (h : Well l) (hd : 0 ≤ d) (hp : ∀ x ∈ l, x.pr ≤ 1000 - d) : Well (up d l) := by
  obtain ⟨h1, h2, h3⟩ := (well_iff l).1 h
  refine (well_iff _).2 ⟨by simpa [up] using h1, ?_, ?_⟩
  · intro x hx
    simp only [up, List.mem_reverse, List.mem_map] at hx
    obtain ⟨y, hy, rfl⟩ := hx
    have hb := ok_bounds (h2 y hy)
    have := hp y hy
    have w : ∀ a lo hi : Int, lo ≤ a → a ≤ hi → Wi.withinB a lo hi = true := fun a lo hi p q => by simp [Wi.withinB, p, q]
    show (Wi.withinB y.id 1 1073741824 && Wi.withinB y.ow 0 5 && Wi.withinB y.sd 0 1 && Wi.withinB (y.pr + d) 1 1000 && Wi.withinB y.q 1 1000) = true
    rw [w _ _ _ hb.1.1 hb.1.2, w _ _ _ hb.2.1.1 hb.2.1.2, w _ _ _ hb.2.2.1.1 hb.2.2.1.2, w _ _ _ hb.2.2.2.2.1 hb.2.2.2.2.2, w (y.pr + d) 1 1000 (by omega) (by omega)]
    rfl
  · have e : (up d l).map (·.id) = (l.map (·.id)).reverse := by
      simp only [up, List.map_reverse, List.map_map]
      rfl
    rw [e]
    rw [List.Nodup, List.pairwise_reverse]
    exact h3.imp fun h => Ne.symm h

theorem won_up {d ref p v : Int} {l : List Lot} (h : Well l) (hd : 0 ≤ d) (hp : ∀ x ∈ l, x.pr ≤ 1000 - d) (hw : Won l ref 1000 p v) : Won (up d l) (ref + d) 1000 (if v = 0 then 0 else p + d) v := by
  have hu := (well_up h hd hp).oks
  have hq : ∀ q, volume (up d l) q = volume l (q - d) := fun q => by
    have := volume_up d l (q - d); rwa [show q - d + d = q by omega] at this
  have low : ∀ q, q ≤ 0 → volume l q = 0 := fun q hq => by
    have := supply_low l h.oks hq
    have hd := (sumIf_bounds (dB q) l h.oks).1
    unfold volume demand; omega
  rcases hw with ⟨h1, h2, h3⟩ | ⟨h1, h2, h3, h4, h5⟩
  · rw [if_pos h2]
    refine .inl ⟨rfl, h2, fun q q1 q2 => ?_⟩
    rw [hq]
    by_cases e : q - d ≤ 0
    · exact low _ e
    · exact h3 _ (by omega) (by omega)
  · rw [if_neg (by omega)]
    have hpd : p ≤ 1000 - d := by
      refine Classical.byContradiction fun hc => ?_
      have : demand l p = 0 := sumIf_zero l fun x hx => by
        have := hp x hx
        have h2 : ¬ p ≤ x.pr := by omega
        simp [dB, h2]
      unfold volume at h4; omega
    refine .inr ⟨h1, by omega, by omega, by rw [volume_up]; exact h4, fun q q1 q2 => ?_⟩
    rw [hq, left_up, away_up]
    have l1 := left_up d l (q - d)
    have a1 := away_up d ref (q - d)
    rw [show q - d + d = q by omega] at l1 a1
    rw [l1, a1]
    by_cases e : q - d ≤ 0
    · left; rw [low _ e]; exact h1
    · have := h5 (q - d) (by omega) (by omega)
      omega

/-- two lots: one price -/
theorem won_two : Won [⟨1, 0, 0, 10, 5⟩, ⟨2, 0, 1, 8, 4⟩] 9 1000 9 4 := by
  have hd : ∀ q, demand [⟨1, 0, 0, 10, 5⟩, ⟨2, 0, 1, 8, 4⟩] q = if q ≤ 10 then 5 else 0 := fun q => by
    simp [demand, sumIf, dB]
  have hs : ∀ q, supply [⟨1, 0, 0, 10, 5⟩, ⟨2, 0, 1, 8, 4⟩] q = if 8 ≤ q then 4 else 0 := fun q => by
    simp [supply, sumIf, sB]
  refine .inr ⟨by omega, by omega, by omega, ?_, fun q q1 q2 => ?_⟩
  · unfold volume; rw [hd, hs]; decide
  · unfold volume left away size
    rw [hd, hs, hd, hs]
    split <;> split <;> simp <;> omega
theorem well_two : Well [⟨1, 0, 0, 10, 5⟩, ⟨2, 0, 1, 8, 4⟩] := by
  refine (well_iff _).2 ⟨by simp, fun x hx => ?_, by simp⟩
  simp only [List.mem_cons, List.not_mem_nil, or_false] at hx
  rcases hx with rfl | rfl <;> decide

end Cv
end Go.Proofs.YtbkjjknlphlhlaaDoor
namespace Go.Proofs.YtbkjjknlphlhlaaDoor
open Go.RowKit
set_option maxRecDepth 100000

theorem results_one_cell {fn : Func} {p : Tmp} {ty : TypeId} (h : fn.results = #[.cell p ty]) (tmps : Array Value) (P : Program) (w : World) :
    (results fn tmps).run P w = ((asAddr (tmps.getD p undef)).run P w).andThen fun a w₁ => (loadVar ty a).run P w₁ := by
  simp only [results, h]
  simp [Sem.run_bind, Result.andThen]

/-- a table as a value -/
def totV (f : Nat → Int) : Value := .agg (row f)

set_option maxHeartbeats 1000000 in
theorem quantities_some (b off cap n : Nat) (side : Int) (l : List Cv.Lot) (w : World) (hn : Hid (l.length = n)) (hl : Hid (LotsAt w b off l)) (hok : Hid (Cv.Well l)) :
    Calls Tryd.prog 39 #[.slice (some ⟨b, off, none⟩) n cap, .int .i64 side] w fun e w' => e = .returned (totV fun i => Cv.at_ l side i) ∧ Below w.heap.size w w' := by
  have h120 := hok.out.1
  rw [hn.out] at h120
  have z60 := zero60
  go_enter Tryd.func39, Tryd.ntmps39
  go_wp2_with fail
  go_loopw [10] (fun i wr => ∃ k : Nat, k ≤ n ∧ i = .int .i64 k ∧ Tot wr w.heap.size (fun _ => 0) ∧ Tot wr (w.heap.size + 1) (fun j => Cv.at_ (l.take k) side j) ∧ Below w.heap.size w wr) (fun i _ => n - (intOf i).toNat)
  case atStart =>
    refine ⟨0, Nat.zero_le _, rfl, (Tot.new w _).alloc _, ?_, ((Below.refl _ _).alloc (Nat.le_refl _) _).alloc (by simp) _⟩
    have := Tot.new (w.alloc (.cells (row fun _ => 0) 62)) (fun _ => 0)
    rw [show (w.alloc (.cells (row fun _ => 0) 62)).heap.size = w.heap.size + 1 by simp] at this
    exact this
  case round =>
    obtain ⟨k, hk, rfl, ht0, ht1, hb⟩ := hrel
    have HT0 := hide ht0; have HT1 := hide ht1; have HB := hide hb
    clear ht0 ht1 hb
    by_cases hlt : k < n
    · have hki : (k : Int) < n := by omega
      obtain ⟨c0, c1, c2, c3, c4⟩ := (hl.out.later HB.out) k (by rw [hn.out]; exact hlt)
      have HS := hide (fun j => Cv.sumIf_step (Cv.atB side j) (l := l) (k := k) (by rw [hn.out]; exact hlt))
      have HX := hide (Cv.ok_bounds (hok.out.oks _ (Cv.nth_mem (l := l) (i := k) (by rw [hn.out]; exact hlt))))
      generalize Cv.nth l k = x at *
      have hbx : Below w.heap.size w (wr.alloc (.cells #[.int .i64 x.id, .int .i64 x.ow, .int .i64 x.sd, .int .i64 x.pr, .int .i64 x.q] 47)) := HB.out.alloc HB.out.size _
      have HBX := hide hbx
      have HX0 : Hid (Tot (wr.alloc (.cells #[.int .i64 x.id, .int .i64 x.ow, .int .i64 x.sd, .int .i64 x.pr, .int .i64 x.q] 47)) w.heap.size (fun _ => 0)) := HT0.out.alloc _
      have HX1 : Hid (Tot (wr.alloc (.cells #[.int .i64 x.id, .int .i64 x.ow, .int .i64 x.sd, .int .i64 x.pr, .int .i64 x.q] 47)) (w.heap.size + 1) (fun j => Cv.at_ (l.take k) side j)) := HT1.out.alloc _
      clear hbx
      by_cases hsd : x.sd = side
      · have hsb : (x.sd == side) = true := by simpa using hsd
        clear hsd
        obtain ⟨pn, hpn⟩ : ∃ pn : Nat, x.pr = (pn : Int) := ⟨x.pr.toNat, by have := HX.out.2.2.2.1; omega⟩
        have hp1 : pn < 1001 := by have := HX.out.2.2.2.1; omega
        have Hpn := hide hpn
        rw [hpn] at c3
        clear hpn
        have hsum : 0 ≤ Cv.at_ (l.take k) side pn ∧ Cv.at_ (l.take k) side pn ≤ 120000 := by
          have := Cv.sumIf_bounds (Cv.atB side pn) (l.take k) (hok.out.oks.take k)
          have h2 : (l.take k).length ≤ 120 := by rw [List.length_take, hn.out]; omega
          unfold Cv.at_
          omega
        obtain ⟨r1, r2⟩ := hsum
        have hq := HX.out.2.2.2.2
        obtain ⟨q1, q2⟩ := hq
        rw [Hpn.out] at HBX HX0 HX1
        go_wp2_with fail
        have d3 : (wr.alloc (.cells #[.int .i64 x.id, .int .i64 x.ow, .int .i64 x.sd, .int .i64 pn, .int .i64 x.q] 47)).cell? ⟨wr.heap.size, 3, none⟩ = some (.int .i64 pn) := by simp
        have d4 : (wr.alloc (.cells #[.int .i64 x.id, .int .i64 x.ow, .int .i64 x.sd, .int .i64 pn, .int .i64 x.q] 47)).cell? ⟨wr.heap.size, 4, none⟩ = some (.int .i64 x.q) := by simp
        clear c0 c1 c2 c3 c4
        generalize wr.alloc (.cells #[.int .i64 x.id, .int .i64 x.ow, .int .i64 x.sd, .int .i64 pn, .int .i64 x.q] 47) = w1 at *
        have d5 := HX1.out.cell hp1
        generalize hat : Cv.at_ (l.take k) side pn = at0 at *
        have Hat := hide hat
        clear hat
        have hpi : (pn : Int) < 1001 := by omega
        refine region_quiet_tail 8 (by kernel_rfl) (by kernel_rfl) ?_
        simp only [List.take_succ_cons, List.take_zero, List.drop_succ_cons, List.drop_zero]
        repeat (first | go_big_quiet_step (fail) | quiet_step (fail))
        refine wpQuiet_nil ?_
        intro _ hw'
        obtain ⟨nq, hw''⟩ := hw'
        subst hw''
        have HB3 : Hid (Below w.heap.size w (w1.drewN nq)) := HBX.out.trans ((blw_drew nq).mono HBX.out.size)
        have e0 := HX0.out.drew nq
        have e1 := HX1.out.drew nq
        have E0 := hide e0; have E1 := hide e1
        clear e0 e1 d3 d4 d5 HX0 HX1 HBX
        generalize w1.drewN nq = w3 at *
        have d5 := E1.out.cell hp1
        have d6 := E1.out.frozen pn
        rw [Hat.out] at d5
        go_wp2_with fail
        refine ⟨⟨k + 1, by omega, by go_num, E0.out.other (by simp) _, (E1.out.set pn (at0 + x.q)).congr fun j _ => ?_, HB3.out.setCell (by simp) _⟩, by simp [intOf]; omega⟩
        have := HS.out j
        unfold Cv.at_
        rw [this]
        by_cases hj : j = pn
        · subst hj
          rw [show Cv.atB side j x = true by simp [Cv.atB, hsb, Hpn.out]]
          rw [← Hat.out]
          simp [Cv.at_]
        · have hne : ¬ (pn : Int) = (j : Int) := fun h => hj (by omega)
          rw [show Cv.atB side j x = false by simp [Cv.atB, Hpn.out, hne]]
          simp [hj]
      · have hsb : (x.sd == side) = false := by simpa using hsd
        have Hsd := hide hsd
        clear hsd
        go_wp2_with fail
        refine ⟨⟨k + 1, by omega, by go_num, HX0.out, HX1.out.congr fun j _ => ?_, HBX.out⟩, by simp [intOf]; omega⟩
        have := HS.out j
        rw [show Cv.atB side j x = false by simp [Cv.atB, hsb]] at this
        unfold Cv.at_
        rw [this]
        simp
    · have hki : ¬ (k : Int) < n := by omega
      have hkk : l.take k = l := by
        have : k = l.length := by rw [hn.out]; omega
        rw [this, List.take_length]
      have ht1 := HT1.out
      rw [hkk] at ht1
      have H1 := hide ht1
      clear hkk ht1 HT1
      have HS2 := hide (HT0.out.stored (fun i => Cv.at_ l side i))
      have HB2 := hide (below_setRow HB.out (Nat.le_refl w.heap.size) (row fun i => Cv.at_ l side i))
      go_wp2_with (first | (refine wpList_load60 H1.out rfl _ rfl rfl ?_) | (refine wpList_store60 (fun i => Cv.at_ l side i) HT0.out rfl _ _ rfl rfl rfl ?_))
      refine bodyPost_ret (v := totV fun i => Cv.at_ l side i) ?_ rfl ⟨rfl, HB2.out⟩
      rw [results_one_cell rfl]
      simp [asAddr, Result.andThen, load60 HS2.out, totV]

theorem quantities_none (cap : Nat) (a : Option Addr) (side : Int) (w : World) :
    Calls Tryd.prog 39 #[.slice a 0 cap, .int .i64 side] w fun e w' => e = .returned (totV fun _ => 0) ∧ Below w.heap.size w w' := by
  have z60 := zero60
  go_enter Tryd.func39, Tryd.ntmps39
  go_wp2
  refine wp_loop_rounds 1 ?_
  rw [rounds_succ]
  have hh : Hid (Tot ((w.alloc (.cells (row fun _ => 0) 62)).alloc (.cells (row fun _ => 0) 62)) w.heap.size (fun _ => 0)) := (Tot.new w _).alloc _
  have h2 : Hid (Tot ((w.alloc (.cells (row fun _ => 0) 62)).alloc (.cells (row fun _ => 0) 62)) (w.heap.size + 1) (fun _ => 0)) := by
    have := Tot.new (w.alloc (.cells (row fun _ => 0) 62)) (fun _ => 0)
    rw [show (w.alloc (.cells (row fun _ => 0) 62)).heap.size = w.heap.size + 1 by simp] at this
    exact this
  have hb : Hid (Below w.heap.size w ((w.alloc (.cells (row fun _ => 0) 62)).alloc (.cells (row fun _ => 0) 62))) := ((Below.refl _ _).alloc (Nat.le_refl _) _).alloc (by simp) _
  generalize (w.alloc (.cells (row fun _ => 0) 62)).alloc (.cells (row fun _ => 0) 62) = wr at *
  have HS2 := hide (hh.out.stored (fun _ => 0))
  have HB2 := hide (below_setRow hb.out (Nat.le_refl w.heap.size) (row fun _ => 0))
  go_wp2_with (first | (refine wpList_load60 h2.out rfl _ rfl rfl ?_) | (refine wpList_store60 (fun _ => 0) hh.out rfl _ _ rfl rfl rfl ?_))
  refine bodyPost_ret (v := totV fun _ => 0) ?_ rfl ⟨rfl, HB2.out⟩
  rw [results_one_cell rfl]
  simp [Act.put, asAddr, Result.andThen, load60 HS2.out, totV]

/-- quantities of one side, by price -/
theorem quantities_any (v : Value) (l : List Cv.Lot) (side : Int) (w : World) (hv : Lots w v l) (hok : Cv.Well l) :
    Calls Tryd.prog 39 #[v, .int .i64 side] w fun e w' => e = .returned (totV fun i => Cv.at_ l side i) ∧ Below w.heap.size w w' := by
  rcases hv with ⟨rfl, a, cap, rfl⟩ | ⟨b, off, cap, rfl, hcap, hl⟩
  · exact quantities_none cap a side w
  · exact quantities_some b off cap _ side l w rfl hl hok

/-- what the table of demands holds while it is being made: from p + 1 on demand, below quantities -/
def dem (l : List Cv.Lot) (p i : Nat) : Int := if p < i then Cv.demand l i else Cv.at_ l 0 i
theorem dem_start {l : List Cv.Lot} (h : Cv.Oks l) (i : Nat) (hi : i < 1001) : Cv.at_ l 0 i = dem l 999 i := by
  unfold dem
  by_cases e : 999 < i
  · obtain rfl : i = 1000 := by omega
    rw [if_pos e]
    have := Cv.demand_step ((1000 : Nat) : Int) l
    rw [Cv.demand_top l h (by omega)] at this
    omega
  · rw [if_neg e]
theorem dem_step {l : List Cv.Lot} {p : Nat} (h1 : 1 ≤ p) (i : Nat) : (if i = p then dem l p p + dem l p (p + 1) else dem l p i) = dem l (p - 1) i := by
  unfold dem
  by_cases e : i = p
  · subst e
    rw [if_pos rfl, if_neg (by omega), if_pos (by omega), if_pos (by omega)]
    have := Cv.demand_step (i : Int) l
    rw [show ((i + 1 : Nat) : Int) = (i : Int) + 1 by omega]
    omega
  · rw [if_neg e]
    by_cases e2 : p < i
    · rw [if_pos e2, if_pos (by omega)]
    · rw [if_neg e2, if_neg (by omega)]
theorem dem_bounds {l : List Cv.Lot} (h : Cv.Well l) (p i : Nat) : 0 ≤ dem l p i ∧ dem l p i ≤ 120000 := by
  have h1 := Cv.sumIf_bounds (Cv.dB i) l h.oks
  have h2 := Cv.sumIf_bounds (Cv.atB 0 i) l h.oks
  have := h.1
  unfold dem Cv.demand Cv.at_
  split <;> omega

set_option maxHeartbeats 1000000 in
/-- demand at all prices -/
theorem demands_any (v : Value) (l : List Cv.Lot) (w : World) (hv : Hid (Lots w v l)) (hok : Hid (Cv.Well l)) :
    Calls Tryd.prog 25 #[v] w fun e w' => e = .returned (totV (dem l 0)) ∧ Below w.heap.size w w' := by
  have z60 := zero60
  have HQ := hide (quantities_any v l 0 (w.alloc (.cells (row fun _ => 0) 62)) (hv.out.later ((Below.refl _ _).alloc (Nat.le_refl _) _)) hok.out)
  go_enter Tryd.func25, Tryd.ntmps25
  go_wp2_with fail
  refine HQ.out.mono ?_
  rintro e w1 ⟨rfl, hb1⟩
  have HB1 : Hid (Below w.heap.size w w1) := ((Below.refl _ _).alloc (Nat.le_refl _) _).trans (hb1.mono (by simp))
  have HR : Hid (Tot w1 w.heap.size (fun _ => 0)) := (Tot.new w _).later hb1 (by simp)
  have HZ : Hid (w.heap.size < w1.heap.size) := by have := hb1.size; simp at this; exact this
  clear hb1 HQ
  simp only [totV]
  have HA : Hid (Tot (w1.alloc (.cells (row fun _ => 0) 62)) w1.heap.size (fun _ => 0)) := Tot.new w1 _
  go_wp2_with (refine wpList_store60 (fun i => Cv.at_ l 0 i) HA.out rfl _ _ rfl rfl rfl ?_)
  have HS : Hid (Tot ((w1.alloc (.cells (row fun _ => 0) 62)).setRow w1.heap.size (row fun i => Cv.at_ l 0 i)) w1.heap.size (dem l 999)) := (HA.out.stored _).congr (dem_start hok.out.oks)
  have HR2 : Hid (Tot ((w1.alloc (.cells (row fun _ => 0) 62)).setRow w1.heap.size (row fun i => Cv.at_ l 0 i)) w.heap.size (fun _ => 0)) := (HR.out.alloc _).beside _ (by have := HZ.out; omega)
  have HB2 : Hid (Below w.heap.size w ((w1.alloc (.cells (row fun _ => 0) 62)).setRow w1.heap.size (row fun i => Cv.at_ l 0 i))) := below_setRow (HB1.out.alloc HB1.out.size _) HB1.out.size _
  clear HR HA HB1
  generalize (w1.alloc (.cells (row fun _ => 0) 62)).setRow w1.heap.size (row fun i => Cv.at_ l 0 i) = w2 at *
  go_loopw [4] (fun i wr => ∃ p : Nat, p ≤ 999 ∧ i = .int .i64 p ∧ Tot wr w.heap.size (fun _ => 0) ∧ Tot wr w1.heap.size (dem l p) ∧ Below w.heap.size w wr) (fun i _ => (intOf i).toNat)
  case atStart => exact ⟨999, by omega, rfl, HR2.out, HS.out, HB2.out⟩
  case round =>
    obtain ⟨p, hp, rfl, ht0, ht1, hb⟩ := hrel
    have HT0 := hide ht0; have HT1 := hide ht1; have HB := hide hb
    clear ht0 ht1 hb HS HR2 HB2
    by_cases hlt : 1 ≤ p
    · have hki : (1 : Int) ≤ (p : Int) := by omega
      have hp1 : p < 1001 := by omega
      have hpi : (p : Int) < 1001 := by omega
      have hpj : (p : Int) + 1 < 1001 := by omega
      have d5 := HT1.out.cell hp1
      have d6 := HT1.out.cell (i := p + 1) (by omega)
      have hb1 := dem_bounds hok.out p p
      have hb2 := dem_bounds hok.out p (p + 1)
      have HX := hide (fun i => dem_step (l := l) (p := p) (by omega) i)
      generalize ha : dem l p p = x at *
      generalize hb : dem l p (p + 1) = y at *
      have Hx := hide ha; have Hy := hide hb
      clear ha hb
      obtain ⟨r1, r2⟩ := hb1
      obtain ⟨r3, r4⟩ := hb2
      go_wp2_with fail
      refine region_quiet_tail 9 (by kernel_rfl) (by kernel_rfl) ?_
      simp only [List.take_succ_cons, List.take_zero, List.drop_succ_cons, List.drop_zero]
      repeat (first | go_big_quiet_step (fail) | quiet_step (fail))
      refine wpQuiet_nil ?_
      intro _ hw'
      obtain ⟨nq, hw''⟩ := hw'
      subst hw''
      have HB3 : Hid (Below w.heap.size w (wr.drewN nq)) := HB.out.trans ((blw_drew nq).mono HB.out.size)
      have e0 := HT0.out.drew nq
      have e1 := HT1.out.drew nq
      have E0 := hide e0; have E1 := hide e1
      clear e0 e1 d5 d6 HT0 HT1 HB
      generalize wr.drewN nq = w3 at *
      have d5 := E1.out.cell hp1
      have d6 := E1.out.frozen p
      go_wp2_with fail
      have E2 := hide ((E1.out.set p (x + y)).congr fun i _ => HX.out i)
      exact ⟨⟨p - 1, by omega, by go_num, E0.out.other (by have := HZ.out; simp; omega) _, E2.out, HB3.out.setCell (by have := HZ.out; simp; omega) _⟩, by simp [intOf]; omega⟩
    · have hki : ¬ (1 : Int) ≤ (p : Int) := by omega
      obtain rfl : p = 0 := by omega
      have HS2 := hide (HT0.out.stored (dem l 0))
      have HB2 := hide (below_setRow HB.out (Nat.le_refl w.heap.size) (row (dem l 0)))
      go_wp2_with (first | (refine wpList_load60 HT1.out rfl _ rfl rfl ?_) | (refine wpList_store60 (dem l 0) HT0.out rfl _ _ rfl rfl rfl ?_))
      refine bodyPost_ret (v := totV (dem l 0)) ?_ rfl ⟨rfl, HB2.out⟩
      rw [results_one_cell rfl]
      simp [asAddr, Result.andThen, load60 HS2.out, totV]

/-- what the table of supplies holds while it is being made: below p supply, from p on quantities -/
def sup (l : List Cv.Lot) (p i : Nat) : Int := if i < p then Cv.supply l i else Cv.at_ l 1 i
theorem sup_start {l : List Cv.Lot} (h : Cv.Oks l) (i : Nat) (hi : i < 1001) : Cv.at_ l 1 i = sup l 2 i := by
  unfold sup
  by_cases e : i < 2
  · rw [if_pos e]
    have := Cv.supply_step ((i : Int) - 1) l
    rw [Cv.supply_low l h (p := (i : Int) - 1) (by omega), show (i : Int) - 1 + 1 = i by omega] at this
    omega
  · rw [if_neg e]
theorem sup_step {l : List Cv.Lot} {p : Nat} (h1 : 1 ≤ p) (i : Nat) : (if i = p then sup l p p + sup l p (p - 1) else sup l p i) = sup l (p + 1) i := by
  unfold sup
  by_cases e : i = p
  · subst e
    rw [if_pos rfl, if_neg (by omega), if_pos (by omega), if_pos (by omega)]
    have := Cv.supply_step ((i : Int) - 1) l
    rw [show (i : Int) - 1 + 1 = i by omega] at this
    rw [show ((i - 1 : Nat) : Int) = (i : Int) - 1 by omega]
    omega
  · rw [if_neg e]
    by_cases e2 : i < p
    · rw [if_pos e2, if_pos (by omega)]
    · rw [if_neg e2, if_neg (by omega)]
theorem sup_bounds {l : List Cv.Lot} (h : Cv.Well l) (p i : Nat) : 0 ≤ sup l p i ∧ sup l p i ≤ 120000 := by
  have h1 := Cv.sumIf_bounds (Cv.sB i) l h.oks
  have h2 := Cv.sumIf_bounds (Cv.atB 1 i) l h.oks
  have := h.1
  unfold sup Cv.supply Cv.at_
  split <;> omega

set_option maxHeartbeats 1000000 in
/-- supply at all prices -/
theorem supplies_any (v : Value) (l : List Cv.Lot) (w : World) (hv : Hid (Lots w v l)) (hok : Hid (Cv.Well l)) :
    Calls Tryd.prog 26 #[v] w fun e w' => e = .returned (totV (sup l 1001)) ∧ Below w.heap.size w w' := by
  have z60 := zero60
  have HQ := hide (quantities_any v l 1 (w.alloc (.cells (row fun _ => 0) 62)) (hv.out.later ((Below.refl _ _).alloc (Nat.le_refl _) _)) hok.out)
  go_enter Tryd.func26, Tryd.ntmps26
  go_wp2_with fail
  refine HQ.out.mono ?_
  rintro e w1 ⟨rfl, hb1⟩
  have HB1 : Hid (Below w.heap.size w w1) := ((Below.refl _ _).alloc (Nat.le_refl _) _).trans (hb1.mono (by simp))
  have HR : Hid (Tot w1 w.heap.size (fun _ => 0)) := (Tot.new w _).later hb1 (by simp)
  have HZ : Hid (w.heap.size < w1.heap.size) := by have := hb1.size; simp at this; exact this
  clear hb1 HQ
  simp only [totV]
  have HA : Hid (Tot (w1.alloc (.cells (row fun _ => 0) 62)) w1.heap.size (fun _ => 0)) := Tot.new w1 _
  go_wp2_with (refine wpList_store60 (fun i => Cv.at_ l 1 i) HA.out rfl _ _ rfl rfl rfl ?_)
  have HS : Hid (Tot ((w1.alloc (.cells (row fun _ => 0) 62)).setRow w1.heap.size (row fun i => Cv.at_ l 1 i)) w1.heap.size (sup l 2)) := (HA.out.stored _).congr (sup_start hok.out.oks)
  have HR2 : Hid (Tot ((w1.alloc (.cells (row fun _ => 0) 62)).setRow w1.heap.size (row fun i => Cv.at_ l 1 i)) w.heap.size (fun _ => 0)) := (HR.out.alloc _).beside _ (by have := HZ.out; omega)
  have HB2 : Hid (Below w.heap.size w ((w1.alloc (.cells (row fun _ => 0) 62)).setRow w1.heap.size (row fun i => Cv.at_ l 1 i))) := below_setRow (HB1.out.alloc HB1.out.size _) HB1.out.size _
  clear HR HA HB1
  generalize (w1.alloc (.cells (row fun _ => 0) 62)).setRow w1.heap.size (row fun i => Cv.at_ l 1 i) = w2 at *
  go_loopw [4] (fun i wr => ∃ p : Nat, (2 ≤ p ∧ p ≤ 1001) ∧ i = .int .i64 p ∧ Tot wr w.heap.size (fun _ => 0) ∧ Tot wr w1.heap.size (sup l p) ∧ Below w.heap.size w wr) (fun i _ => 1001 - (intOf i).toNat)
  case atStart => exact ⟨2, by omega, rfl, HR2.out, HS.out, HB2.out⟩
  case round =>
    obtain ⟨p, hp, rfl, ht0, ht1, hb⟩ := hrel
    have HT0 := hide ht0; have HT1 := hide ht1; have HB := hide hb
    clear ht0 ht1 hb HS HR2 HB2
    by_cases hlt : p ≤ 1000
    · have hki : (p : Int) ≤ 1000 := by omega
      have hp1 : p < 1001 := by omega
      have hpi : (p : Int) < 1001 := by omega
      have hpj : (0 : Int) ≤ (p : Int) - 1 := by omega
      have d5 := HT1.out.cell hp1
      have d6 := HT1.out.cell (i := p - 1) (by omega)
      have hb1 := sup_bounds hok.out p p
      have hb2 := sup_bounds hok.out p (p - 1)
      have HX := hide (fun i => sup_step (l := l) (p := p) (by omega) i)
      generalize ha : sup l p p = x at *
      generalize hb : sup l p (p - 1) = y at *
      have Hx := hide ha; have Hy := hide hb
      clear ha hb
      obtain ⟨r1, r2⟩ := hb1
      obtain ⟨r3, r4⟩ := hb2
      go_wp2_with fail
      refine region_quiet_tail 9 (by kernel_rfl) (by kernel_rfl) ?_
      simp only [List.take_succ_cons, List.take_zero, List.drop_succ_cons, List.drop_zero]
      repeat (first | go_big_quiet_step (fail) | quiet_step (fail))
      refine wpQuiet_nil ?_
      intro _ hw'
      obtain ⟨nq, hw''⟩ := hw'
      subst hw''
      have HB3 : Hid (Below w.heap.size w (wr.drewN nq)) := HB.out.trans ((blw_drew nq).mono HB.out.size)
      have e0 := HT0.out.drew nq
      have e1 := HT1.out.drew nq
      have E0 := hide e0; have E1 := hide e1
      clear e0 e1 d5 d6 HT0 HT1 HB
      generalize wr.drewN nq = w3 at *
      have d5 := E1.out.cell hp1
      have d6 := E1.out.frozen p
      go_wp2_with fail
      have E2 := hide ((E1.out.set p (x + y)).congr fun i _ => HX.out i)
      exact ⟨⟨p + 1, by omega, by go_num, E0.out.other (by have := HZ.out; simp; omega) _, E2.out, HB3.out.setCell (by have := HZ.out; simp; omega) _⟩, by simp [intOf]; omega⟩
    · have hki : ¬ (p : Int) ≤ 1000 := by omega
      obtain rfl : p = 1001 := by omega
      have HS2 := hide (HT0.out.stored (sup l 1001))
      have HB2 := hide (below_setRow HB.out (Nat.le_refl w.heap.size) (row (sup l 1001)))
      go_wp2_with (first | (refine wpList_load60 HT1.out rfl _ rfl rfl ?_) | (refine wpList_store60 (sup l 1001) HT0.out rfl _ _ rfl rfl rfl ?_))
      refine bodyPost_ret (v := totV (sup l 1001)) ?_ rfl ⟨rfl, HB2.out⟩
      rw [results_one_cell rfl]
      simp [asAddr, Result.andThen, load60 HS2.out, totV]
end Go.Proofs.YtbkjjknlphlhlaaDoor
