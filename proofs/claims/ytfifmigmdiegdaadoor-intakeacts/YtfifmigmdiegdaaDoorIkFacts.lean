/- Plain facts on an intake: requests that wait, by client; what a put, a clearing and a drain make of them; no program is spoken of. -/
namespace Go.Proofs.YtfifmigmdiegdaaDoor
structure Ask where
  k : Int
  c : Int
  sq : Int
  it : Int
  sd : Int
  pr : Int
  q : Int
  id : Int
deriving DecidableEq
def az : Ask := ⟨0, 0, 0, 0, 0, 0, 0, 0⟩
def anth (l : List Ask) (i : Nat) : Ask := l.getD i az
theorem anth_get {l : List Ask} {i : Nat} (h : i < l.length) : l[i]? = some (anth l i) := by
  unfold anth
  rw [List.getD_eq_getElem?_getD, List.getElem?_eq_getElem h]; rfl
theorem anth_append_left {l m : List Ask} {i : Nat} (h : i < l.length) : anth (l ++ m) i = anth l i := by
  unfold anth
  rw [List.getD_eq_getElem?_getD, List.getD_eq_getElem?_getD, List.getElem?_append_left h]
namespace Ik
def upd {α : Type} (L : Nat → α) (i : Nat) (x : α) : Nat → α := fun j => if j = i then x else L j
theorem upd_same {α : Type} (L : Nat → α) (i : Nat) (x : α) : upd L i x i = x := by simp [upd]
theorem upd_other {α : Type} (L : Nat → α) {i j : Nat} (x : α) (h : j ≠ i) : upd L i x j = L j := by simp [upd, h]
theorem upd_self {α : Type} (L : Nat → α) (i : Nat) : upd L i (L i) = L := by
  funext j
  unfold upd
  split <;> simp_all
/-- is there a client of this number? -/
def isC (c : Int) : Bool := decide (0 ≤ c) && decide (c ≤ 5)
theorem isC_lt {c : Int} (h : isC c = true) : ∃ n : Nat, n < 6 ∧ c = (n : Int) := by
  simp [isC] at h
  exact ⟨c.toNat, by omega, by omega⟩
theorem isC_nat {n : Nat} (h : n < 6) : isC (n : Int) = true := by simp [isC]; omega
def isK (a : Ask) : Bool := a.k == 111 || a.k == 99
/-- the number of the error of a put; 0: none -/
def putC (L : Nat → List Ask) (a : Ask) : Nat := if isK a = true then (if isC a.c = true then (if 6 ≤ (L a.c.toNat).length then 8 else 0) else 2) else 4
def putL (L : Nat → List Ask) (a : Ask) : Nat → List Ask := if putC L a = 0 then upd L a.c.toNat (L a.c.toNat ++ [a]) else L
def waitN (L : Nat → List Ask) (c : Int) : Nat := if isC c = true then (L c.toNat).length else 0
def clearL (L : Nat → List Ask) (c : Int) : Nat → List Ask := if isC c = true then upd L c.toNat [] else L
/-- whose turn it is, so many on -/
def who (t k : Nat) : Nat := (t + k) % 6
theorem who_lt (t k : Nat) : who t k < 6 := Nat.mod_lt _ (by decide)
/-- what waits behind the first so many clients of a drain -/
def drN (L : Nat → List Ask) (t : Nat) : Nat → Nat → List Ask
  | 0 => L
  | k + 1 => upd (drN L t k) (who t k) ((drN L t k (who t k)).drop 2)
/-- what is drained by then -/
def ouN (L : Nat → List Ask) (t : Nat) : Nat → List Ask
  | 0 => []
  | k + 1 => ouN L t k ++ (drN L t k (who t k)).take 2
def drL (L : Nat → List Ask) (t : Nat) : Nat → List Ask := drN L t 6
def out (L : Nat → List Ask) (t : Nat) : List Ask := ouN L t 6
theorem drN_at (L : Nat → List Ask) {t : Nat} (ht : t < 6) : ∀ (k : Nat), k ≤ 6 → ∀ c, drN L t k c = if c < 6 ∧ (c + 6 - t) % 6 < k then (L c).drop 2 else L c
  | 0, _, c => by simp [drN]
  | k + 1, hk, c => by
    have ih := drN_at L ht k (by omega)
    unfold drN
    by_cases h : c = who t k
    · rw [h, upd_same, ih, if_neg, if_pos]
      · refine ⟨who_lt t k, ?_⟩
        unfold who; omega
      · rintro ⟨_, h2⟩
        unfold who at h2; omega
    · rw [upd_other _ _ h, ih]
      by_cases h6 : c < 6
      · have : (c + 6 - t) % 6 ≠ k := by
          intro e
          apply h
          unfold who; omega
        by_cases h2 : (c + 6 - t) % 6 < k
        · rw [if_pos ⟨h6, h2⟩, if_pos ⟨h6, by omega⟩]
        · rw [if_neg (fun h => h2 h.2), if_neg (fun h => by have := h.2; omega)]
      · rw [if_neg (fun h => h6 h.1), if_neg (fun h => h6 h.1)]
theorem drL_at (L : Nat → List Ask) {t : Nat} (ht : t < 6) {c : Nat} (hc : c < 6) : drL L t c = (L c).drop 2 := by
  unfold drL
  rw [drN_at L ht 6 (by decide), if_pos ⟨hc, Nat.mod_lt _ (by decide)⟩]
theorem dr_who (L : Nat → List Ask) {t : Nat} (ht : t < 6) {k : Nat} (hk : k < 6) : drN L t k (who t k) = L (who t k) := by
  rw [drN_at L ht k (by omega), if_neg]
  rintro ⟨_, h⟩
  unfold who at h; omega
theorem ouN_succ (L : Nat → List Ask) {t : Nat} (ht : t < 6) {k : Nat} (hk : k < 6) : ouN L t (k + 1) = ouN L t k ++ (L (who t k)).take 2 := by
  rw [← dr_who L ht hk]; rfl
theorem ouN_len (L : Nat → List Ask) (t : Nat) : ∀ k, (ouN L t k).length ≤ 2 * k
  | 0 => by simp [ouN]
  | k + 1 => by
    have := ouN_len L t k
    simp only [ouN, List.length_append, List.length_take]
    omega
theorem drN_few {L : Nat → List Ask} (t : Nat) (h : ∀ c, c < 6 → (L c).length ≤ 6) : ∀ k c, c < 6 → (drN L t k c).length ≤ 6
  | 0, c, hc => h c hc
  | k + 1, c, hc => by
    have := drN_few t h k
    unfold drN
    by_cases e : c = who t k
    · rw [e, upd_same, List.length_drop]
      have := this (who t k) (who_lt t k)
      omega
    · rw [upd_other _ _ e]; exact this c hc
end Ik
end Go.Proofs.YtfifmigmdiegdaaDoor
