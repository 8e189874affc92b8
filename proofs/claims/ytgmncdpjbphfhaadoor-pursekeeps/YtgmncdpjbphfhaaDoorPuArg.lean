/- Acts of purses as they come in; two that are held against each other. -/
import Derived.Test.YtgmncdpjbphfhaaDoorPuPursed
namespace Go.Proofs.YtgmncdpjbphfhaaDoor
open Go.RowKit
set_option maxRecDepth 100000

structure PAct where
  kind : ByteArray
  n : Int
  cash : Int
  s0 : Int
  s1 : Int
  s2 : Int
  item : Int
  a : Cv.Lot
  b : Cv.Lot
  price : Int
  qty : Int
def pz : PAct := ⟨ByteArray.empty, 0, 0, 0, 0, 0, 0, Cv.z, Cv.z, 0, 0⟩
def pnth (l : List PAct) (i : Nat) : PAct := l.getD i pz
def payCells (x : PAct) : List Value := [.string x.kind, .int .i64 x.n, .int .i64 x.cash, .int .i64 x.s0, .int .i64 x.s1, .int .i64 x.s2, .int .i64 x.item, .int .i64 x.a.id, .int .i64 x.a.ow, .int .i64 x.a.sd, .int .i64 x.a.pr, .int .i64 x.a.q, .int .i64 x.b.id, .int .i64 x.b.ow, .int .i64 x.b.sd, .int .i64 x.b.pr, .int .i64 x.b.q, .int .i64 x.price, .int .i64 x.qty]
/-- the cells of a slice of acts that came in -/
def PaysAt (w : World) (g : Addr) (l : List PAct) : Prop :=
  ∀ i, i < l.length → w.cell? (g.add (i * 19)) = some (.string (pnth l i).kind) ∧ ∀ j, 0 < j → j < 19 → w.cell? ⟨(g.add (i * 19)).block, (g.add (i * 19)).off + j, none⟩ = (payCells (pnth l i))[j]?
theorem PaysAt.later {w w' : World} {g : Addr} {l : List PAct} (h : PaysAt w g l) (hb : Below w.heap.size w w') : PaysAt w' g l :=
  fun i hi => ⟨cell_later hb (h i hi).1, fun j h0 hj => by
    have hl : (payCells (pnth l i)).length = 19 := rfl
    have e := (h i hi).2 j h0 hj
    rw [List.getElem?_eq_getElem (by rw [hl]; exact hj)] at e ⊢
    exact cell_later hb e⟩
/-- a slice of acts that came in -/
def ArgPays (w : World) (a : Option Addr) (n : Nat) (l : List PAct) : Prop := l.length = n ∧ (n = 0 ∨ ∃ g, a = some g ∧ PaysAt w g l)

def giftOf (x : PAct) : Pu.Gift := ⟨x.n, x.cash, x.s0, x.s1, x.s2⟩
def giveK : List UInt8 := [103, 105, 118, 101]
def holdK : List UInt8 := [104, 111, 108, 100]
def freeK : List UInt8 := [102, 114, 101, 101]
theorem errE_ne (v : Nat → Value) {c : Nat} (h : ¬ c = 0) : ∃ y, errE v c = .iface 110 y := by
  match c, h with
  | 0, h => exact absurd rfl h
  | c + 1, _ => exact ⟨_, rfl⟩
theorem errE_zero (v : Nat → Value) {c : Nat} (h : c = 0) : errE v c = .nilIface := by subst h; rfl

theorem eq27 (d : Nat) (a b c a' b' c' : Int) (w : World) : (Op.equalIn (d + 2) 27 (.agg #[.int .i64 a, .int .i64 b, .int .i64 c]) (.agg #[.int .i64 a', .int .i64 b', .int .i64 c'])).run Tryd.prog w = .ok (a == a' && (b == b' && c == c')) w := by
  rw [show d + 2 = (d + 1) + 1 from rfl, Op.equalIn]
  simp [run_underlying Tryd.underlying27, go_sem, List.range']
  by_cases h1 : a = a' <;> by_cases h2 : b = b' <;> by_cases h3 : c = c' <;> simp [h1, h2, h3]
theorem eql27 (a b c a' b' c' : Int) (w : World) : (binOp .eql 27 (.agg #[.int .i64 a, .int .i64 b, .int .i64 c]) (.agg #[.int .i64 a', .int .i64 b', .int .i64 c'])).run Tryd.prog w = .ok (.bool (a == a' && (b == b' && c == c'))) w := by
  rw [run_eql_struct, eq27 9998]
  rfl
def same8 (a b c d e f g h a' b' c' d' e' f' g' h' : Int) : Bool := a == a' && (b == b' && ((c == c' && (d == d' && e == e')) && (f == f' && (g == g' && h == h'))))
theorem eq47 (a b c d e f g q a' b' c' d' e' f' g' q' : Int) (w : World) : (Op.equalIn 10000 47 (.agg #[.int .i64 a, .int .i64 b, .int .i64 c, .int .i64 d, .int .i64 e, .int .i64 f, .int .i64 g, .int .i64 q]) (.agg #[.int .i64 a', .int .i64 b', .int .i64 c', .int .i64 d', .int .i64 e', .int .i64 f', .int .i64 g', .int .i64 q'])).run Tryd.prog w = .ok (same8 a b c d e f g q a' b' c' d' e' f' g' q') w := by
  have h := eq27 9997
  unfold same8
  simp only [Nat.reduceAdd] at h
  simp [go_sem, h]
  by_cases h1 : a = a'
  · by_cases h2 : b = b'
    · by_cases h3 : c = c' → d = d' → ¬ e = e'
      · have k : (c == c' && (d == d' && e == e')) = false := by
          rw [Bool.eq_false_iff]
          intro h
          simp only [Bool.and_eq_true, beq_iff_eq] at h
          exact h3 h.1 h.2.1 h.2.2
        rw [if_pos h1, if_pos h2, if_pos h3, k]
        simp
      · have k : (c == c' && (d == d' && e == e')) = true := by
          simp only [Bool.and_eq_true, beq_iff_eq]
          exact ⟨Decidable.byContradiction fun x => h3 fun y => absurd y x, Decidable.byContradiction fun x => h3 fun _ y => absurd y x, Decidable.byContradiction fun x => h3 fun _ _ => x⟩
        rw [if_pos h1, if_pos h2, if_neg h3, k]
        by_cases h4 : f = f' → g = g' → ¬ q = q'
        · have k : (f == f' && (g == g' && q == q')) = false := by
            rw [Bool.eq_false_iff]
            intro h
            simp only [Bool.and_eq_true, beq_iff_eq] at h
            exact h4 h.1 h.2.1 h.2.2
          rw [if_pos h4, k]
          simp
        · have k : (f == f' && (g == g' && q == q')) = true := by
            simp only [Bool.and_eq_true, beq_iff_eq]
            exact ⟨Decidable.byContradiction fun x => h4 fun y => absurd y x, Decidable.byContradiction fun x => h4 fun _ y => absurd y x, Decidable.byContradiction fun x => h4 fun _ _ => x⟩
          rw [if_neg h4, k]
          simp [h1, h2]
    · simp [h1, h2]
  · simp [h1]
theorem eql47 (a b c d e f g h a' b' c' d' e' f' g' h' : Int) (w : World) : (binOp .eql 47 (.agg #[.int .i64 a, .int .i64 b, .int .i64 c, .int .i64 d, .int .i64 e, .int .i64 f, .int .i64 g, .int .i64 h]) (.agg #[.int .i64 a', .int .i64 b', .int .i64 c', .int .i64 d', .int .i64 e', .int .i64 f', .int .i64 g', .int .i64 h'])).run Tryd.prog w = .ok (.bool (same8 a b c d e f g h a' b' c' d' e' f' g' h')) w := by
  rw [run_eql_struct, eq47]
  rfl
theorem neq47 (a b c d e f g h a' b' c' d' e' f' g' h' : Int) (w : World) : (binOp .neq 47 (.agg #[.int .i64 a, .int .i64 b, .int .i64 c, .int .i64 d, .int .i64 e, .int .i64 f, .int .i64 g, .int .i64 h]) (.agg #[.int .i64 a', .int .i64 b', .int .i64 c', .int .i64 d', .int .i64 e', .int .i64 f', .int .i64 g', .int .i64 h'])).run Tryd.prog w = .ok (.bool (!same8 a b c d e f g h a' b' c' d' e' f' g' h')) w := by
  rw [run_neq_struct, eq47]
  rfl
theorem same8_refl (a b c d e f g h : Int) : same8 a b c d e f g h a b c d e f g h = true := by simp [same8]
end Go.Proofs.YtgmncdpjbphfhaaDoor
