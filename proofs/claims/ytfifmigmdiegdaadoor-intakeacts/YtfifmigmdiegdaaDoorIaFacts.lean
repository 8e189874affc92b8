/- Plain facts on one list of all requests that wait, held against a queue a client; no program is spoken of. -/
import Derived.Test.YtfifmigmdiegdaaDoorIkWaits
namespace Go.Proofs.YtfifmigmdiegdaaDoor
namespace Ik
def fi (n : Int) (l : List Ask) : List Ask := l.filter fun a => a.c == n
theorem fi_append (n : Int) (a b : List Ask) : fi n (a ++ b) = fi n a ++ fi n b := List.filter_append ..
theorem fi_in {n : Int} {l : List Ask} {j : Nat} (h : j < l.length) (hc : (anth l j).c = n) : fi n (l.take (j + 1)) = fi n (l.take j) ++ [anth l j] := by
  rw [take_anth h, fi_append]
  congr 1
  simp [fi, hc]
theorem fi_off {n : Int} {l : List Ask} {j : Nat} (h : j < l.length) (hc : (anth l j).c ≠ n) : fi n (l.take (j + 1)) = fi n (l.take j) := by
  rw [take_anth h, fi_append]
  have : fi n [anth l j] = [] := by simp [fi, hc]
  rw [this, List.append_nil]
theorem anth_mem {l : List Ask} {j : Nat} (h : j < l.length) : anth l j ∈ l := List.mem_of_getElem? (anth_get h)
/-- what does not go of one client's -/
def off (n : Int) (l : List Ask) : List Ask := l.filter fun a => a.c != n
theorem off_append (n : Int) (a b : List Ask) : off n (a ++ b) = off n a ++ off n b := List.filter_append ..
theorem off_in {n : Int} {l : List Ask} {j : Nat} (h : j < l.length) (hc : (anth l j).c = n) : off n (l.take (j + 1)) = off n (l.take j) := by
  rw [take_anth h, off_append]
  have : off n [anth l j] = [] := by simp [off, hc]
  rw [this, List.append_nil]
theorem off_off {n : Int} {l : List Ask} {j : Nat} (h : j < l.length) (hc : (anth l j).c ≠ n) : off n (l.take (j + 1)) = off n (l.take j) ++ [anth l j] := by
  rw [take_anth h, off_append]
  congr 1
  simp [off, hc]
theorem len_off (n : Int) : ∀ l : List Ask, (fi n l).length + (off n l).length = l.length
  | [] => rfl
  | a :: l => by
    have := len_off n l
    unfold fi off at *
    by_cases h : a.c = n
    · simp [h]; omega
    · simp [h]; omega
theorem fi_off_same (n : Int) (l : List Ask) : fi n (off n l) = [] := by
  unfold fi off
  rw [List.filter_eq_nil_iff]
  intro a ha e
  have h1 := (List.mem_filter.1 ha).2
  simp at h1 e
  exact h1 e
theorem fi_off_other {m n : Int} (hmn : m ≠ n) (l : List Ask) : fi m (off n l) = fi m l := by
  unfold fi off
  rw [List.filter_filter]
  congr 1
  funext a
  by_cases h : a.c = m
  · have : (a.c != n) = true := by rw [h]; simpa using hmn
    rw [this, Bool.and_true]
  · have : (a.c == m) = false := by simpa using h
    rw [this, Bool.false_and]
def mputC (M : List Ask) (a : Ask) : Nat := if isK a = true then (if isC a.c = true then (if 6 ≤ (fi a.c M).length then 8 else 0) else 2) else 4
def mputL (M : List Ask) (a : Ask) : List Ask := if mputC M a = 0 then M ++ [a] else M
/-- a list of all, and a queue a client -/
structure Rel (L : Nat → List Ask) (M : List Ask) : Prop where
  of : ∀ c, c < 6 → L c = fi (c : Int) M
  ok : ∀ a ∈ M, isC a.c = true
theorem rel_none : Rel (fun _ => []) [] := ⟨fun _ _ => rfl, fun _ h => by cases h⟩
section
variable {L : Nat → List Ask} {M : List Ask}
theorem Rel.putC (h : Rel L M) (a : Ask) : putC L a = mputC M a := by
  unfold Ik.putC mputC
  by_cases h1 : isC a.c = true
  · obtain ⟨n, hn, e⟩ := isC_lt h1
    rw [if_pos h1, if_pos h1, e, Int.toNat_natCast, h.of n hn]
  · rw [if_neg h1, if_neg h1]
theorem mput_ok {a : Ask} (h0 : mputC M a = 0) : isC a.c = true := by
  unfold mputC at h0
  by_cases h1 : isC a.c = true
  · exact h1
  · rw [if_neg h1] at h0
    split at h0 <;> cases h0
theorem Rel.put (h : Rel L M) (a : Ask) : Rel (putL L a) (mputL M a) := by
  unfold putL mputL
  rw [h.putC a]
  by_cases h0 : mputC M a = 0
  · rw [if_pos h0, if_pos h0]
    have hC := mput_ok h0
    obtain ⟨n, hn, e⟩ := isC_lt hC
    rw [e, Int.toNat_natCast]
    refine ⟨fun c hc => ?_, fun x hx => ?_⟩
    · rw [fi_append]
      by_cases hcn : c = n
      · subst hcn
        rw [upd_same, h.of c hc]
        congr 1
        simp [fi, e]
      · rw [upd_other _ _ hcn, h.of c hc]
        have : fi (c : Int) [a] = [] := by
          simp [fi, e]; omega
        rw [this, List.append_nil]
    · rw [List.mem_append] at hx
      rcases hx with hx | hx
      · exact h.ok x hx
      · simp at hx; subst hx; exact hC
  · rw [if_neg h0, if_neg h0]
    exact h
theorem Rel.wait (h : Rel L M) (n : Int) : waitN L n = (fi n M).length := by
  unfold waitN
  by_cases h1 : isC n = true
  · obtain ⟨c, hc, e⟩ := isC_lt h1
    rw [if_pos h1, e, Int.toNat_natCast, h.of c hc]
  · rw [if_neg h1]
    have : fi n M = [] := List.filter_eq_nil_iff.2 fun a ha => by
      intro e
      apply h1
      have := h.ok a ha
      rw [show a.c = n by simpa using e] at this
      exact this
    rw [this]; rfl
theorem Rel.clear (h : Rel L M) (n : Int) : Rel (clearL L n) (off n M) := by
  refine ⟨fun c hc => ?_, fun a ha => h.ok a (List.mem_filter.1 ha).1⟩
  unfold clearL
  by_cases h1 : isC n = true
  · obtain ⟨m, hm, e⟩ := isC_lt h1
    rw [if_pos h1, e, Int.toNat_natCast]
    by_cases hcm : c = m
    · subst hcm
      rw [upd_same, fi_off_same]
    · rw [upd_other _ _ hcm, fi_off_other (by omega), h.of c hc]
  · rw [if_neg h1, fi_off_other, h.of c hc]
    intro e
    rw [← e] at h1
    exact h1 (isC_nat hc)
theorem Rel.own (h : Rel L M) : Own L := fun c hc a ha => by
  rw [h.of c hc] at ha
  simpa [fi] using (List.mem_filter.1 ha).2
end
/-- is a request among the first two of its client? -/
def early (M : List Ask) (i : Nat) : Bool := decide ((fi (anth M i).c (M.take i)).length < 2)
/-- is it gone behind the first so many clients? -/
def gone (t : Nat) (M : List Ask) (k i : Nat) : Bool := decide (((anth M i).c.toNat + 6 - t) % 6 < k) && early M i
def leftN (M : List Ask) : Nat → List Ask
  | 0 => []
  | j + 1 => leftN M j ++ if early M j = true then [] else [anth M j]
theorem leftN_mem (M : List Ask) {a : Ask} : ∀ j, j ≤ M.length → a ∈ leftN M j → a ∈ M
  | 0, _, h => by cases h
  | j + 1, hj, h => by
    unfold leftN at h
    rw [List.mem_append] at h
    rcases h with h | h
    · exact leftN_mem M j (by omega) h
    · split at h
      · cases h
      · simp at h; subst h; exact anth_mem (by omega)
theorem leftN_len (M : List Ask) : ∀ j, (leftN M j).length ≤ j
  | 0 => Nat.le_refl _
  | j + 1 => by
    have := leftN_len M j
    unfold leftN
    rw [List.length_append]
    split <;> simp <;> omega
theorem fi_leftN (M : List Ask) (n : Int) : ∀ j, j ≤ M.length → fi n (leftN M j) = (fi n (M.take j)).drop 2
  | 0, _ => rfl
  | j + 1, hj => by
    have ih := fi_leftN M n j (by omega)
    unfold leftN
    rw [fi_append, ih]
    by_cases hc : (anth M j).c = n
    · rw [fi_in (by omega) hc]
      unfold early
      rw [hc]
      by_cases h2 : (fi n (M.take j)).length < 2
      · simp only [h2, decide_true, if_true]
        rw [List.drop_of_length_le (by omega), List.drop_of_length_le (by simp; omega)]
        rfl
      · simp only [h2, decide_false, Bool.false_eq_true, if_false]
        rw [List.drop_append_of_le_length (by omega)]
        congr 1
        simp [fi, hc]
    · rw [fi_off (by omega) hc]
      have : fi n (if early M j = true then [] else [anth M j]) = [] := by
        split
        · rfl
        · simp [fi, hc]
      rw [this, List.append_nil]
theorem Rel.drain {L : Nat → List Ask} {M : List Ask} (h : Rel L M) {t : Nat} (ht : t < 6) : Rel (drL L t) (leftN M M.length) := by
  refine ⟨fun c hc => ?_, fun a ha => h.ok a (leftN_mem M _ (Nat.le_refl _) ha)⟩
  rw [drL_at L ht hc, fi_leftN M _ _ (Nat.le_refl _), List.take_of_length_le (Nat.le_refl _), h.of c hc]
theorem Rel.client {L : Nat → List Ask} {M : List Ask} (h : Rel L M) {i : Nat} (hi : i < M.length) : ∃ c : Nat, c < 6 ∧ (anth M i).c = (c : Int) := isC_lt (h.ok _ (anth_mem hi))
theorem gone_zero (t : Nat) (M : List Ask) (i : Nat) : gone t M 0 i = false := by simp [gone]
theorem gone_six {t : Nat} {M : List Ask} (i : Nat) : gone t M 6 i = early M i := by
  unfold gone
  rw [decide_eq_true (Nat.mod_lt _ (by decide))]
  rfl
theorem gone_other {t k : Nat} {M : List Ask} {i c : Nat} (ht : t < 6) (hk : k < 6) (hc : c < 6) (he : (anth M i).c = (c : Int)) (hne : c ≠ who t k) : gone t M (k + 1) i = gone t M k i := by
  unfold gone
  rw [he, Int.toNat_natCast]
  have : (c + 6 - t) % 6 ≠ k := fun e => hne (by unfold who; omega)
  congr 1
  by_cases h : (c + 6 - t) % 6 < k
  · rw [decide_eq_true h, decide_eq_true (by omega)]
  · rw [decide_eq_false h, decide_eq_false (by omega)]
theorem gone_late {t k : Nat} {M : List Ask} {i : Nat} (h : ¬ (fi (anth M i).c (M.take i)).length < 2) : gone t M (k + 1) i = gone t M k i := by
  unfold gone early
  rw [decide_eq_false h]
  simp
theorem gone_now {t k : Nat} {M : List Ask} {i : Nat} (ht : t < 6) (hk : k < 6) (he : (anth M i).c = (who t k : Nat)) (h : (fi (anth M i).c (M.take i)).length < 2) : gone t M (k + 1) i = true := by
  unfold gone early
  rw [decide_eq_true h, he, Int.toNat_natCast, decide_eq_true]
  · rfl
  · unfold who; omega
end Ik
end Go.Proofs.YtfifmigmdiegdaaDoor
