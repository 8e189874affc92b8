/- The document's trade in two stores; no program is spoken of but the store of eight numbers. -/
import Derived.Test.YtgmncdpjbphfhaaDoorPmGive
import Derived.Test.YtgmncdpjbphfhaaDoorPuMore
namespace Go.Proofs.YtgmncdpjbphfhaaDoor
open Go.RowKit
set_option maxRecDepth 100000

theorem dl_bound (i : Nat) (v : Int) (j : Nat) (m : Int) (h : -m ≤ v) (h' : v ≤ m) (hm : 0 ≤ m) : -m ≤ Pu.dl i v j ∧ Pu.dl i v j ≤ m := by
  unfold Pu.dl; split <;> omega
/-- the buyer's numbers are stored -/
def bF (f : Nat → Int) (b k : Nat) (H A Q : Int) : Nat → Int := Pu.add (Pu.add (Pu.add f (b * 8 + 1) (-H)) (b * 8) (-A)) (b * 8 + 2 + k) Q
def sF (f : Nat → Int) (s k : Nat) (A Q : Int) : Nat → Int := Pu.add (Pu.add (Pu.add f (s * 8 + 5 + k) (-Q)) (s * 8 + 2 + k) (-Q)) (s * 8) A
theorem near (f : Nat → Int) (b k : Nat) (H A Q : Int) (h1 : 1 ≤ H) (h2 : H ≤ 1000000) (h3 : 1 ≤ A) (h4 : A ≤ 1000000) (h5 : 1 ≤ Q) (h6 : Q ≤ 1000000) (j : Nat) : f j - 3000000 ≤ bF f b k H A Q j ∧ bF f b k H A Q j ≤ f j + 3000000 := by
  unfold bF
  rw [Pu.add_dl, Pu.add_dl, Pu.add_dl]
  have a := dl_bound (b * 8 + 1) (-H) j 1000000 (by omega) (by omega) (by omega)
  have c := dl_bound (b * 8) (-A) j 1000000 (by omega) (by omega) (by omega)
  have d := dl_bound (b * 8 + 2 + k) Q j 1000000 (by omega) (by omega) (by omega)
  omega
theorem six_two (f : Nat → Int) (b s k : Nat) (bp price qty : Int) : sF (bF f b k (bp * qty) (price * qty) qty) s k (price * qty) qty = Pu.six f b s k bp price qty := by
  funext j
  simp only [sF, bF, Pu.six, Pu.add_dl]
  omega
theorem store29 {w : World} {B : Nat} {old new : Array Value} (h : w.heap[B]? = some (.cells old 29 (0, 0))) (ho : old.size = 8) (hn : new.size = 8) (h1 : new.all (·.oneCell') = true) : (storeVar 29 ⟨B, 0, none⟩ (.agg new)).run Tryd.prog w = .ok () (w.setRow B new) :=
  run_storeVar_row w B 29 29 old new h (by rw [hn]; kernel_rfl) (by rw [ho, hn]) h1
theorem wpList_store29 {ops : Array Oper} {rest : List Oper} {op : Oper} {a : Act} {w : World} {Q : Exit → Act → World → Prop} {B : Nat} {old new : Array Value} (W' : World) (h : w.heap[B]? = some (.cells old 29 (0, 0))) (ho : old.size = 8) (hn : new.size = 8) (h1 : new.all (·.oneCell') = true) (hW : w.setRow B new = W') (hgd : op.guard = none) (x y : Operand) (hop : op.op = .store 29 x y)
    (hx : a.eval x = .pointer (some ⟨B, 0, none⟩)) (hy : a.eval y = .agg new) (k : wpList Tryd.prog ops Q rest (a.put op.dst undef) W') : wpList Tryd.prog ops Q (op :: rest) a w :=
  wpList_plain hgd fun _ hK => by
    unfold Oper.wp execOp
    simp only [hop, hx, hy, Instr.storeAt, Instr.sureAddr, Sem.run_bind, Sem.run_pure, Result.andThen_ok, store29 h ho hn h1]
    subst hW
    exact hK _ _ k
theorem put8b_0 (f : Nat → Int) (c : Nat) (H A Q : Int) (j : Nat) : (if j = c * 8 + 7 then f (c * 8 + 7) else (if j = c * 8 + 6 then f (c * 8 + 6) else (if j = c * 8 + 5 then f (c * 8 + 5) else (if j = c * 8 + 4 then f (c * 8 + 4) else (if j = c * 8 + 3 then f (c * 8 + 3) else (if j = c * 8 + 2 then f (c * 8 + 2) + Q else (if j = c * 8 + 1 then f (c * 8 + 1) - H else (if j = c * 8 then f (c * 8) - A else f j)))))))) = bF f c 0 H A Q j := by
  show _ = Pu.add (Pu.add (Pu.add f (c * 8 + 1) (-H)) (c * 8) (-A)) (c * 8 + 2) Q j
  simp only [Pu.add, Int.sub_eq_add_neg]
  by_cases h7 : j = c * 8 + 7
  · subst h7; simp
  by_cases h6 : j = c * 8 + 6
  · subst h6; simp
  by_cases h5 : j = c * 8 + 5
  · subst h5; simp
  by_cases h4 : j = c * 8 + 4
  · subst h4; simp
  by_cases h3 : j = c * 8 + 3
  · subst h3; simp
  by_cases h2 : j = c * 8 + 2
  · subst h2; simp
  by_cases h1 : j = c * 8 + 1
  · subst h1; simp
  by_cases h0 : j = c * 8
  · subst h0; simp
  simp [h0, h1, h2, h3, h4, h5, h6, h7]
theorem put8s_0 (f : Nat → Int) (c : Nat) (A Q : Int) (j : Nat) : (if j = c * 8 + 7 then f (c * 8 + 7) else (if j = c * 8 + 6 then f (c * 8 + 6) else (if j = c * 8 + 5 then f (c * 8 + 5) - Q else (if j = c * 8 + 4 then f (c * 8 + 4) else (if j = c * 8 + 3 then f (c * 8 + 3) else (if j = c * 8 + 2 then f (c * 8 + 2) - Q else (if j = c * 8 + 1 then f (c * 8 + 1) else (if j = c * 8 then f (c * 8) + A else f j)))))))) = sF f c 0 A Q j := by
  show _ = Pu.add (Pu.add (Pu.add f (c * 8 + 5) (-Q)) (c * 8 + 2) (-Q)) (c * 8) A j
  simp only [Pu.add, Int.sub_eq_add_neg]
  by_cases h7 : j = c * 8 + 7
  · subst h7; simp
  by_cases h6 : j = c * 8 + 6
  · subst h6; simp
  by_cases h5 : j = c * 8 + 5
  · subst h5; simp
  by_cases h4 : j = c * 8 + 4
  · subst h4; simp
  by_cases h3 : j = c * 8 + 3
  · subst h3; simp
  by_cases h2 : j = c * 8 + 2
  · subst h2; simp
  by_cases h1 : j = c * 8 + 1
  · subst h1; simp
  by_cases h0 : j = c * 8
  · subst h0; simp
  simp [h0, h1, h2, h3, h4, h5, h6, h7]
theorem put8b_1 (f : Nat → Int) (c : Nat) (H A Q : Int) (j : Nat) : (if j = c * 8 + 7 then f (c * 8 + 7) else (if j = c * 8 + 6 then f (c * 8 + 6) else (if j = c * 8 + 5 then f (c * 8 + 5) else (if j = c * 8 + 4 then f (c * 8 + 4) else (if j = c * 8 + 3 then f (c * 8 + 3) + Q else (if j = c * 8 + 2 then f (c * 8 + 2) else (if j = c * 8 + 1 then f (c * 8 + 1) - H else (if j = c * 8 then f (c * 8) - A else f j)))))))) = bF f c 1 H A Q j := by
  show _ = Pu.add (Pu.add (Pu.add f (c * 8 + 1) (-H)) (c * 8) (-A)) (c * 8 + 3) Q j
  simp only [Pu.add, Int.sub_eq_add_neg]
  by_cases h7 : j = c * 8 + 7
  · subst h7; simp
  by_cases h6 : j = c * 8 + 6
  · subst h6; simp
  by_cases h5 : j = c * 8 + 5
  · subst h5; simp
  by_cases h4 : j = c * 8 + 4
  · subst h4; simp
  by_cases h3 : j = c * 8 + 3
  · subst h3; simp
  by_cases h2 : j = c * 8 + 2
  · subst h2; simp
  by_cases h1 : j = c * 8 + 1
  · subst h1; simp
  by_cases h0 : j = c * 8
  · subst h0; simp
  simp [h0, h1, h2, h3, h4, h5, h6, h7]
theorem put8s_1 (f : Nat → Int) (c : Nat) (A Q : Int) (j : Nat) : (if j = c * 8 + 7 then f (c * 8 + 7) else (if j = c * 8 + 6 then f (c * 8 + 6) - Q else (if j = c * 8 + 5 then f (c * 8 + 5) else (if j = c * 8 + 4 then f (c * 8 + 4) else (if j = c * 8 + 3 then f (c * 8 + 3) - Q else (if j = c * 8 + 2 then f (c * 8 + 2) else (if j = c * 8 + 1 then f (c * 8 + 1) else (if j = c * 8 then f (c * 8) + A else f j)))))))) = sF f c 1 A Q j := by
  show _ = Pu.add (Pu.add (Pu.add f (c * 8 + 6) (-Q)) (c * 8 + 3) (-Q)) (c * 8) A j
  simp only [Pu.add, Int.sub_eq_add_neg]
  by_cases h7 : j = c * 8 + 7
  · subst h7; simp
  by_cases h6 : j = c * 8 + 6
  · subst h6; simp
  by_cases h5 : j = c * 8 + 5
  · subst h5; simp
  by_cases h4 : j = c * 8 + 4
  · subst h4; simp
  by_cases h3 : j = c * 8 + 3
  · subst h3; simp
  by_cases h2 : j = c * 8 + 2
  · subst h2; simp
  by_cases h1 : j = c * 8 + 1
  · subst h1; simp
  by_cases h0 : j = c * 8
  · subst h0; simp
  simp [h0, h1, h2, h3, h4, h5, h6, h7]
theorem put8b_2 (f : Nat → Int) (c : Nat) (H A Q : Int) (j : Nat) : (if j = c * 8 + 7 then f (c * 8 + 7) else (if j = c * 8 + 6 then f (c * 8 + 6) else (if j = c * 8 + 5 then f (c * 8 + 5) else (if j = c * 8 + 4 then f (c * 8 + 4) + Q else (if j = c * 8 + 3 then f (c * 8 + 3) else (if j = c * 8 + 2 then f (c * 8 + 2) else (if j = c * 8 + 1 then f (c * 8 + 1) - H else (if j = c * 8 then f (c * 8) - A else f j)))))))) = bF f c 2 H A Q j := by
  show _ = Pu.add (Pu.add (Pu.add f (c * 8 + 1) (-H)) (c * 8) (-A)) (c * 8 + 4) Q j
  simp only [Pu.add, Int.sub_eq_add_neg]
  by_cases h7 : j = c * 8 + 7
  · subst h7; simp
  by_cases h6 : j = c * 8 + 6
  · subst h6; simp
  by_cases h5 : j = c * 8 + 5
  · subst h5; simp
  by_cases h4 : j = c * 8 + 4
  · subst h4; simp
  by_cases h3 : j = c * 8 + 3
  · subst h3; simp
  by_cases h2 : j = c * 8 + 2
  · subst h2; simp
  by_cases h1 : j = c * 8 + 1
  · subst h1; simp
  by_cases h0 : j = c * 8
  · subst h0; simp
  simp [h0, h1, h2, h3, h4, h5, h6, h7]
theorem put8s_2 (f : Nat → Int) (c : Nat) (A Q : Int) (j : Nat) : (if j = c * 8 + 7 then f (c * 8 + 7) - Q else (if j = c * 8 + 6 then f (c * 8 + 6) else (if j = c * 8 + 5 then f (c * 8 + 5) else (if j = c * 8 + 4 then f (c * 8 + 4) - Q else (if j = c * 8 + 3 then f (c * 8 + 3) else (if j = c * 8 + 2 then f (c * 8 + 2) else (if j = c * 8 + 1 then f (c * 8 + 1) else (if j = c * 8 then f (c * 8) + A else f j)))))))) = sF f c 2 A Q j := by
  show _ = Pu.add (Pu.add (Pu.add f (c * 8 + 7) (-Q)) (c * 8 + 4) (-Q)) (c * 8) A j
  simp only [Pu.add, Int.sub_eq_add_neg]
  by_cases h7 : j = c * 8 + 7
  · subst h7; simp
  by_cases h6 : j = c * 8 + 6
  · subst h6; simp
  by_cases h5 : j = c * 8 + 5
  · subst h5; simp
  by_cases h4 : j = c * 8 + 4
  · subst h4; simp
  by_cases h3 : j = c * 8 + 3
  · subst h3; simp
  by_cases h2 : j = c * 8 + 2
  · subst h2; simp
  by_cases h1 : j = c * 8 + 1
  · subst h1; simp
  by_cases h0 : j = c * 8
  · subst h0; simp
  simp [h0, h1, h2, h3, h4, h5, h6, h7]
end Go.Proofs.YtgmncdpjbphfhaaDoor
