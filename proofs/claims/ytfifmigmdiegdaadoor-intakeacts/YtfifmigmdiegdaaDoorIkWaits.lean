/- Plain facts on who waits how long: requests of one client in a drain; no program is spoken of. -/
import Derived.Test.YtfifmigmdiegdaaDoorIkFacts
namespace Go.Proofs.YtfifmigmdiegdaaDoor
namespace Ik
/-- each queue has its client's requests alone -/
def Own (L : Nat → List Ask) : Prop := ∀ c, c < 6 → ∀ a ∈ L c, a.c = (c : Int)
theorem own_none : Own (fun _ => []) := fun _ _ a h => by cases h
theorem own_put {L : Nat → List Ask} (h : Own L) (a : Ask) : Own (putL L a) := by
  unfold putL
  split
  · rename_i h0
    intro c hc x hx
    by_cases e : c = a.c.toNat
    · subst e
      rw [upd_same, List.mem_append] at hx
      rcases hx with hx | hx
      · exact h _ hc x hx
      · simp at hx
        subst hx
        have hC : isC x.c = true := by
          unfold putC at h0
          by_cases h1 : isC x.c = true
          · exact h1
          · rw [if_neg h1] at h0
            split at h0 <;> cases h0
        obtain ⟨n, _, e⟩ := isC_lt hC
        rw [e]; simp
    · rw [upd_other _ _ e] at hx
      exact h c hc x hx
  · exact h
theorem own_dr {L : Nat → List Ask} (h : Own L) {t : Nat} (ht : t < 6) : Own (drL L t) := fun c hc a ha => by
  rw [drL_at L ht hc] at ha
  exact h c hc a (List.mem_of_mem_drop ha)
theorem own_clear {L : Nat → List Ask} (h : Own L) (n : Int) : Own (clearL L n) := by
  unfold clearL
  split
  · intro c hc x hx
    by_cases e : c = n.toNat
    · subst e; rw [upd_same] at hx; cases hx
    · rw [upd_other _ _ e] at hx; exact h c hc x hx
  · exact h
theorem putL_other {L : Nat → List Ask} {a : Ask} {cl : Nat} (h : a.c ≠ (cl : Int)) : putL L a cl = L cl := by
  unfold putL
  split
  · rename_i h0
    have hC : isC a.c = true := by
      unfold putC at h0
      by_cases h1 : isC a.c = true
      · exact h1
      · rw [if_neg h1] at h0
        split at h0 <;> cases h0
    obtain ⟨n, _, e⟩ := isC_lt hC
    refine upd_other _ _ (fun h1 => h ?_)
    rw [h1, e]; simp
  · rfl
def filt (cl : Nat) (l : List Ask) : List Ask := l.filter fun a => a.c == (cl : Int)
theorem filt_append (cl : Nat) (a b : List Ask) : filt cl (a ++ b) = filt cl a ++ filt cl b := List.filter_append ..
theorem filt_all {cl : Nat} {l : List Ask} (h : ∀ a ∈ l, a.c = (cl : Int)) : filt cl l = l := List.filter_eq_self.2 fun a ha => by simp [h a ha]
theorem filt_none {cl : Nat} {l : List Ask} (h : ∀ a ∈ l, a.c ≠ (cl : Int)) : filt cl l = [] := List.filter_eq_nil_iff.2 fun a ha => by simp [h a ha]
theorem filt_ouN {L : Nat → List Ask} (h : Own L) {t cl : Nat} (ht : t < 6) (hc : cl < 6) : ∀ k, k ≤ 6 → filt cl (ouN L t k) = if (cl + 6 - t) % 6 < k then (L cl).take 2 else []
  | 0, _ => rfl
  | k + 1, hk => by
    rw [ouN_succ L ht (by omega), filt_append, filt_ouN h ht hc k (by omega)]
    by_cases e : who t k = cl
    · rw [e, filt_all (fun a ha => h cl hc a (List.mem_of_mem_take ha)), if_neg, if_pos]
      · rfl
      · unfold who at e; omega
      · unfold who at e; omega
    · have : (cl + 6 - t) % 6 ≠ k := fun e2 => e (by unfold who; omega)
      rw [filt_none (l := (L (who t k)).take 2), List.append_nil]
      · by_cases h2 : (cl + 6 - t) % 6 < k
        · rw [if_pos h2, if_pos (by omega)]
        · rw [if_neg h2, if_neg (by omega)]
      · intro a ha e2
        have := h _ (who_lt t k) a (List.mem_of_mem_take ha)
        rw [this] at e2
        exact e (by omega)
theorem filt_out {L : Nat → List Ask} (h : Own L) {t cl : Nat} (ht : t < 6) (hc : cl < 6) : filt cl (out L t) = (L cl).take 2 := by
  unfold out
  rw [filt_ouN h ht hc 6 (by decide), if_pos (Nat.mod_lt _ (by decide))]
theorem take_anth {l : List Ask} {j : Nat} (h : j < l.length) : l.take (j + 1) = l.take j ++ [anth l j] := by
  have := List.getElem?_eq_some_iff.1 (anth_get h)
  obtain ⟨h3, h4⟩ := this
  rw [List.take_succ_eq_append_getElem h, h4]
theorem filt_in {cl : Nat} {l : List Ask} {j : Nat} (h : j < l.length) (hc : (anth l j).c = (cl : Int)) : filt cl (l.take (j + 1)) = filt cl (l.take j) ++ [anth l j] := by
  rw [take_anth h, filt_append]
  congr 1
  simp [filt, hc]
theorem filt_off {cl : Nat} {l : List Ask} {j : Nat} (h : j < l.length) (hc : (anth l j).c ≠ (cl : Int)) : filt cl (l.take (j + 1)) = filt cl (l.take j) := by
  rw [take_anth h, filt_append]
  have : filt cl [anth l j] = [] := by simp [filt, hc]
  rw [this, List.append_nil]
theorem filt_at {cl : Nat} {l : List Ask} {j : Nat} (h : j < l.length) (hc : (anth l j).c = (cl : Int)) : anth (filt cl l) (filt cl (l.take j)).length = anth l j ∧ (filt cl (l.take j)).length < (filt cl l).length := by
  have e : filt cl l = (filt cl (l.take j) ++ [anth l j]) ++ filt cl (l.drop (j + 1)) := by
    rw [← filt_in h hc, ← filt_append, List.take_append_drop]
  constructor
  · rw [e, List.append_assoc]
    unfold anth
    rw [List.getD_eq_getElem?_getD, List.getElem?_append_right (Nat.le_refl _), Nat.sub_self]
    rfl
  · rw [e]; simp only [List.length_append, List.length_singleton]; omega
/-- a client's own, by number -/
def askM (cl i : Nat) : Ask := ⟨99, cl, 0, 0, 0, 0, 0, 1000 + (i : Int)⟩
def mine (cl : Nat) : Nat → Nat → List Ask
  | _, 0 => []
  | a, m + 1 => askM cl a :: mine cl (a + 1) m
theorem mine_len (cl : Nat) : ∀ m a, (mine cl a m).length = m
  | 0, _ => rfl
  | m + 1, a => by simp [mine, mine_len cl m (a + 1)]
theorem mine_snoc (cl : Nat) : ∀ m a, mine cl a (m + 1) = mine cl a m ++ [askM cl (a + m)]
  | 0, _ => rfl
  | m + 1, a => by
    show askM cl a :: mine cl (a + 1) (m + 1) = askM cl a :: (mine cl (a + 1) m ++ [_])
    rw [mine_snoc cl m (a + 1), show a + 1 + m = a + (m + 1) by omega]
theorem mine_get (cl : Nat) : ∀ m a i, i < m → anth (mine cl a m) i = askM cl (a + i)
  | 0, _, _, h => by omega
  | m + 1, a, 0, _ => rfl
  | m + 1, a, i + 1, h => by
    show anth (mine cl (a + 1) m) i = _
    rw [mine_get cl m (a + 1) i (by omega), show a + 1 + i = a + (i + 1) by omega]
theorem mine_take (cl a m : Nat) : (mine cl a m).take 2 = mine cl a (min 2 m) := by
  match m with
  | 0 => rfl
  | 1 => rfl
  | m + 2 =>
    rw [show min 2 (m + 2) = 2 by omega]
    rfl
theorem mine_drop (cl a m : Nat) : (mine cl a m).drop 2 = mine cl (a + min 2 m) (m - min 2 m) := by
  match m with
  | 0 => rfl
  | 1 => rfl
  | m + 2 =>
    rw [show min 2 (m + 2) = 2 by omega]
    rfl
theorem mine_put {L : Nat → List Ask} {cl k : Nat} (hc : cl < 6) (hk : k < 6) (h : L cl = mine cl 0 k) : putC L (askM cl k) = 0 ∧ putL L (askM cl k) cl = mine cl 0 (k + 1) := by
  have e : putC L (askM cl k) = 0 := by
    unfold putC
    rw [if_pos (by rfl), if_pos (show isC (askM cl k).c = true from isC_nat hc), if_neg]
    show ¬ 6 ≤ (L ((cl : Int).toNat)).length
    rw [Int.toNat_natCast, h, mine_len]; omega
  refine ⟨e, ?_⟩
  unfold putL
  rw [if_pos e]
  show upd L ((cl : Int).toNat) (L ((cl : Int).toNat) ++ [askM cl k]) cl = _
  rw [Int.toNat_natCast, upd_same, h, mine_snoc, Nat.zero_add]
end Ik
end Go.Proofs.YtfifmigmdiegdaaDoor
