/- A call of Prices that goes no further than its own arguments. -/
import Derived.Test.YtbkjjknlphlhlaaDoorZ09
import Derived.Test.YtbkjjknlphlhlaaDoorZ47
namespace Go.Proofs.YtbkjjknlphlhlaaDoor
namespace Px
open Go.Conc Go.ConcN Sim Sin Sf Mc Hd Mb Ev
open Go.RowKit
set_option maxRecDepth 100000

def T52 (u : Nat → Value) : Array Value := #[u 0, u 1, u 2, u 3, u 4, u 5, u 6, u 7, u 8, u 9, u 10, u 11, u 12, u 13, u 14, u 15, u 16, u 17, u 18, u 19, u 20, u 21, u 22, u 23, u 24, u 25, u 26, u 27, u 28, u 29, u 30, u 31, u 32, u 33, u 34, u 35, u 36, u 37, u 38, u 39, u 40, u 41, u 42, u 43, u 44, u 45, u 46, u 47, u 48, u 49, u 50, u 51]
theorem T52_is (u : Nat → Value) : T52 u = ((List.range 52).map u).toArray ∧ True := ⟨rfl, trivial⟩
theorem T52_of {a : Array Value} (h : a.size = 52) : a = T52 fun j => a.getD j undef := by
  rw [(T52_is _).1]
  refine Array.ext (by simp [h]) fun i h1 h2 => ?_
  simp [Array.getD, h1]
def thn : Code → Code
  | .cond _ a _ => a
  | c => c
section
variable (c : Frame) (cs : List Frame) (tp : Option Addr) (n cp : Nat) (ref k : Int) (N : Nat)
noncomputable def z1 : Goroutine := adv Tryd.prog true 27 (p2 c cs tp n cp ref k N)
noncomputable def z2 : Goroutine := adv Tryd.prog true 3 (fin (z1 c cs tp n cp ref k N) (.bool true))
noncomputable def z3 : Goroutine := adv Tryd.prog true 15 (fin (z2 c cs tp n cp ref k N) (.bool true))
noncomputable def y1 : Goroutine := adv Tryd.prog true 13 (fin (z1 c cs tp n cp ref k N) (.bool false))
noncomputable def y2 : Goroutine := adv Tryd.prog true 9 (fin (z2 c cs tp n cp ref k N) (.bool false))
noncomputable def y3' : Goroutine := adv Tryd.prog true 3 (fin (z3 c cs tp n cp ref k N) (.bool true))
theorem z01 : Still Tryd.prog true 27 (p2 c cs tp n cp ref k N) (z1 c cs tp n cp ref k N) := still_of (fun w => by kernel_rfl) (by kernel_rfl) (by kernel_rfl)
theorem z12 : Still Tryd.prog true 3 (fin (z1 c cs tp n cp ref k N) (.bool true)) (z2 c cs tp n cp ref k N) := still_of (fun w => by kernel_rfl) (by kernel_rfl) (by kernel_rfl)
theorem z23 : Still Tryd.prog true 15 (fin (z2 c cs tp n cp ref k N) (.bool true)) (z3 c cs tp n cp ref k N) := still_of (fun w => by kernel_rfl) (by kernel_rfl) (by kernel_rfl)
theorem z1y : Still Tryd.prog true 13 (fin (z1 c cs tp n cp ref k N) (.bool false)) (y1 c cs tp n cp ref k N) := still_of (fun w => by kernel_rfl) (by kernel_rfl) (by kernel_rfl)
theorem z2y : Still Tryd.prog true 9 (fin (z2 c cs tp n cp ref k N) (.bool false)) (y2 c cs tp n cp ref k N) := still_of (fun w => by kernel_rfl) (by kernel_rfl) (by kernel_rfl)
theorem z3y : Still Tryd.prog true 3 (fin (z3 c cs tp n cp ref k N) (.bool true)) (y3' c cs tp n cp ref k N) := still_of (fun w => by kernel_rfl) (by kernel_rfl) (by kernel_rfl)
theorem z1_step (w : World) : stepG Tryd.prog true (z1 c cs tp n cp ref k N) w = .go (fin (z1 c cs tp n cp ref k N) (.bool (decide ((1 : Int) ≤ k)))) w #[] ∧ True := ⟨by kernel_rfl, trivial⟩
theorem z2_step (w : World) : stepG Tryd.prog true (z2 c cs tp n cp ref k N) w = .go (fin (z2 c cs tp n cp ref k N) (.bool (decide (k ≤ 16)))) w #[] ∧ True := ⟨by kernel_rfl, trivial⟩
theorem z3_step (w : World) : stepG Tryd.prog true (z3 c cs tp n cp ref k N) w = .go (fin (z3 c cs tp n cp ref k N) (.bool (decide ((n : Int) > 100)))) w #[] ∧ True := ⟨by kernel_rfl, trivial⟩
theorem z_run : ((z1 c cs tp n cp ref k N).status = .running ∧ (z2 c cs tp n cp ref k N).status = .running) ∧ (z3 c cs tp n cp ref k N).status = .running ∧ (p2 c cs tp n cp ref k N).status = .running := ⟨⟨by kernel_rfl, by kernel_rfl⟩, by kernel_rfl, by kernel_rfl⟩
noncomputable def c2 : Code := fst (thn (snd (fst (snd b11))))
noncomputable def c4 : Code := fst (thn (snd (fst (snd (snd b11)))))
/-- Where the error is laid. -/
def Lays (g : Goroutine) (code : Code) (c : Frame) (cs : List Frame) (tp : Option Addr) (n cp : Nat) (ref k : Int) (N : Nat) : Prop := ∃ t K, t.size = 52 ∧ g = G ((fr0 11).at ⟨t, []⟩ (.code code :: .code .ret :: K)) (F5 tp n cp ref k N :: c :: cs)
theorem y1_is : Lays (y1 c cs tp n cp ref k N) c2 c cs tp n cp ref k N := ⟨(y1 c cs tp n cp ref k N).frame.tmps, (y1 c cs tp n cp ref k N).frame.todo.tail.tail, by kernel_rfl, by kernel_rfl⟩
theorem y2_is : Lays (y2 c cs tp n cp ref k N) c2 c cs tp n cp ref k N := ⟨(y2 c cs tp n cp ref k N).frame.tmps, (y2 c cs tp n cp ref k N).frame.todo.tail.tail, by kernel_rfl, by kernel_rfl⟩
theorem y3_is : Lays (y3' c cs tp n cp ref k N) c4 c cs tp n cp ref k N := ⟨(y3' c cs tp n cp ref k N).frame.tmps, (y3' c cs tp n cp ref k N).frame.todo.tail.tail, by kernel_rfl, by kernel_rfl⟩
end
theorem c24_ok : Sin.codeB Tryd.prog S3 true c2 = true ∧ Sin.codeB Tryd.prog S3 true c4 = true := ⟨by kernel_rfl, by kernel_rfl⟩
def LayQ (v : Value) (w : World) (t : Array Value) (w' : World) : Prop := t.getD 8 undef = .slice none 0 0 ∧ t.getD 9 undef = v ∧ ∀ b, b < w.heap.size → w'.heap[b]? = w.heap[b]?
theorem lay2 (u : Nat → Value) (w : World) (v : Value) (hv : w.cell? ⟨0, 0, none⟩ = some v) : c2.wp Tryd.prog (fun e a' w' => e = .normal ∧ a'.defers = [] ∧ LayQ v w a'.tmps w') ⟨T52 u, []⟩ w := by
  simp only [c2, thn, b11, fst, snd, Tryd.f11, Option.getD, T52]
  go_quiet (fail)
  exact ⟨rfl, rfl, rfl, rfl, fun _ _ => rfl⟩
theorem lay4 (u : Nat → Value) (w : World) (v : Value) (hv : w.cell? ⟨1, 0, none⟩ = some v) : c4.wp Tryd.prog (fun e a' w' => e = .normal ∧ a'.defers = [] ∧ LayQ v w a'.tmps w') ⟨T52 u, []⟩ w := by
  simp only [c4, thn, b11, fst, snd, Tryd.f11, Option.getD, T52]
  go_quiet (fail)
  exact ⟨rfl, rfl, rfl, rfl, fun _ _ => rfl⟩
section
variable {Z : Nat → Prop} {Stop : Goroutine → World → Prop} {w : World} {c : Frame} {cs : List Frame} {tp : Option Addr} {n cp N : Nat} {ref k : Int} {ad : Nat → Addr}
/-- The old blocks stand, and nothing else was done. -/
structure Step (Z : Nat → Prop) (w w' : World) : Prop where
  mz : Mz Tryd.prog Z w'
  old : ∀ b, b < w.heap.size → w'.heap[b]? = w.heap[b]?
  os : w'.os = w.os
  output : w'.output = w.output
  size : w.heap.size ≤ w'.heap.size
theorem lay_out {g : Goroutine} {code : Code} {a : Addr} (hl : Lays g code c cs tp n cp ref k N) (hok : Sin.codeB Tryd.prog S3 true code = true) (hM : Mz Tryd.prog Z w) (h : ∀ u T d, code.wp Tryd.prog (fun e a' w' => e = .normal ∧ a'.defers = [] ∧ LayQ (.iface 145 (.pointer (some a))) (Lw S3 Z w) a'.tmps w') ⟨T52 u, []⟩ (World.on (Lw S3 Z w) T d))
    (next : ∀ w', Step Z w w' → Wd Tryd.prog Z Stop (G (c.finish (.tuple #[.slice none 0 0, .iface 145 (.pointer (some a))])) cs) w') : Wd Tryd.prog Z Stop g w := by
  obtain ⟨t, K, hs, rfl⟩ := hl
  have hu : T52 (fun j => (t.map (san S3 (Dz Z w))).getD j undef) = t.map (san S3 (Dz Z w)) := (T52_of (by simpa using hs)).symm
  refine piece s3_ok (Qa := LayQ (.iface 145 (.pointer (some a))) (Lw S3 Z w)) hok (.inl rfl) hM (hu ▸ san_rows t) (h _) (fun _ _ _ _ h => h) ?_
  rintro m t' tr' wl w' ha hv ⟨q1, q2, q3⟩
  have e8 : tr'.getD 8 undef = .slice none 0 0 := right_key ha.own hv q1 (sure_nils _ _)
  have e9 : tr'.getD 9 undef = .iface 145 (.pointer (some a)) := right_key ha.own hv q2 (sure_iface _ (sure_ptr _))
  refine wd_same rfl (fun _ => stepG_ret') (wd_pop rfl (show Tryd.prog.funcs[11]? = some Tryd.f11 by kernel_rfl) (fun w => res11_ok.1 tr' w) ?_)
  have er : res11 tr' = .tuple #[.slice none 0 0, .iface 145 (.pointer (some a))] := by unfold res11; rw [e8, e9]
  rw [er]
  exact wd_still (f5_out _ _) (next w' ⟨ha.mz hM, fun b hb => ha.keep hb (q3 b (by rw [lw_size]; exact hb)), ha.mx.os, ha.mx.output, ha.size⟩)
/-- ████ A call of Prices whose arguments are not to be had. ████ -/
theorem prices_err (hM : Mz Tryd.prog Z w) (hs : Sent w ad) (hz : ∀ g, g < 12 → Dz Z w (ad g).block) (hbad : ¬ (1 ≤ k ∧ k ≤ 16) ∨ 100 < n)
    (next : ∀ J w', J < 12 → (if 1 ≤ k ∧ k ≤ 16 then J = 1 else J = 2) → Step Z w w' → Wd Tryd.prog Z Stop (G (c.finish (.tuple #[.slice none 0 0, .iface 145 (.pointer (some (ad J)))])) cs) w') : Wd Tryd.prog Z Stop (p0 c cs tp n cp ref k) w := by
  refine Sin.wd_still (p01 c cs tp n cp ref k) (wd_new (p2 c cs tp n cp ref k) (p1_run c cs tp n cp ref k) (p12 c cs tp n cp ref k) ?_)
  have hb : Below w.heap.size w (w.alloc (.cells #[.int .i64 ref] 3)) := (Below.refl _ _).alloc (Nat.le_refl _) _
  have hs1 : Sent (w.alloc (.cells #[.int .i64 ref] 3)) ad := hs.later hb
  have dz1 : ∀ b, Dz Z w b → Dz Z (w.alloc (.cells #[.int .i64 ref] 3)) b := fun b hd => ⟨hd.1, by
    obtain ⟨x, y, z, e⟩ := hd.2
    exact ⟨x, y, z, (hb.block b (Array.getElem?_eq_some_iff.1 e).1).trans e⟩⟩
  have hM1 : Mz Tryd.prog Z (w.alloc (.cells #[.int .i64 ref] 3)) := ⟨fun g hg => dz1 g (hM.glob g hg), fun b hz => Nat.lt_of_lt_of_le (hM.low b hz) hb.size⟩
  have st : ∀ w', Step Z (w.alloc (.cells #[.int .i64 ref] 3)) w' → Step Z w w' := fun w' h => ⟨h.mz, fun b hb' => (h.old b (Nat.lt_of_lt_of_le hb' hb.size)).trans (hb.block b hb'), h.os.trans hb.os, h.output.trans hb.output, Nat.le_trans hb.size h.size⟩
  generalize w.alloc (.cells #[.int .i64 ref] 3) = w1 at hs1 dz1 hM1 st ⊢
  have nice : ∀ g, g < 12 → (Lw S3 Z w1).cell? ⟨glob g, 0, none⟩ = some (.iface 145 (.pointer (some (ad g)))) := fun g hg => lw_cell (hs1.cell g hg) (nice_iface _ (nice_ptr (dz1 _ (hz g hg))))
  have r := z_run c cs tp n cp ref k w.heap.size
  refine Sin.wd_still (z01 c cs tp n cp ref k _) (wd_same r.1.1 (fun w => (z1_step c cs tp n cp ref k _ w).1) ?_)
  by_cases h1 : 1 ≤ k
  · rw [decide_eq_true h1]
    refine Sin.wd_still (z12 c cs tp n cp ref k _) (wd_same r.1.2 (fun w => (z2_step c cs tp n cp ref k _ w).1) ?_)
    by_cases h2 : k ≤ 16
    · rw [decide_eq_true h2]
      refine Sin.wd_still (z23 c cs tp n cp ref k _) (wd_same r.2.1 (fun w => (z3_step c cs tp n cp ref k _ w).1) ?_)
      have h3 : 100 < n := hbad.resolve_left fun h => h ⟨h1, h2⟩
      rw [decide_eq_true (show (n : Int) > 100 by omega)]
      exact Sin.wd_still (z3y c cs tp n cp ref k _) (lay_out (y3_is c cs tp n cp ref k _) c24_ok.2 hM1 (fun u T d => lay4 u (World.on (Lw S3 Z w1) T d) _ (nice 1 (by decide))) fun w' h => next 1 w' (by decide) (by rw [if_pos ⟨h1, h2⟩]) (st w' h))
    · rw [decide_eq_false h2]
      exact Sin.wd_still (z2y c cs tp n cp ref k _) (lay_out (y2_is c cs tp n cp ref k _) c24_ok.1 hM1 (fun u T d => lay2 u (World.on (Lw S3 Z w1) T d) _ (nice 2 (by decide))) fun w' h => next 2 w' (by decide) (by rw [if_neg fun h => h2 h.2]) (st w' h))
  · rw [decide_eq_false h1]
    exact Sin.wd_still (z1y c cs tp n cp ref k _) (lay_out (y1_is c cs tp n cp ref k _) c24_ok.1 hM1 (fun u T d => lay2 u (World.on (Lw S3 Z w1) T d) _ (nice 2 (by decide))) fun w' h => next 2 w' (by decide) (by rw [if_neg fun h => h1 h.1]) (st w' h))
end
end Px
end Go.Proofs.YtbkjjknlphlhlaaDoor
namespace Go.Proofs.YtbkjjknlphlhlaaDoor
namespace Px
open Go.Conc Go.ConcN Sim Sin Sf Mc Hd Mb Ev
open Go.RowKit
set_option maxRecDepth 100000

noncomputable def ops15 : Array Oper := opsOf (fst e3)
noncomputable def e15 : Code := snd e3
theorem e3_is : e3 = .seq (.region 15 ops15 false) e15 ∧ True := ⟨by kernel_rfl, trivial⟩
theorem ops15_size : ops15.size = 9 ∧ True := ⟨by kernel_rfl, trivial⟩
theorem at15_0 : ∃ o, ops15[0]? = some o ∧ o.dst = some 64 ∧ o.op = .move (.tmp 9) ∧ o.guard = none := ⟨_, rfl, rfl, rfl, rfl⟩
theorem at15_1 : ∃ o, ops15[1]? = some o ∧ o.dst = some 65 ∧ o.op = .move (.tmp 1) ∧ o.guard = none := ⟨_, rfl, rfl, rfl, rfl⟩
theorem at15_2 : ∃ o, ops15[2]? = some o ∧ o.dst = some 66 ∧ o.op = .move (.tmp 2) ∧ o.guard = none := ⟨_, rfl, rfl, rfl, rfl⟩
theorem at15_3 : ∃ o, ops15[3]? = some o ∧ o.dst = some 67 ∧ o.op = .call { callee := .value (.func 5), args := #[.tmp 64, .tmp 65, .tmp 66], argTypes := #[22, 3, 3] } ∧ o.guard = none := ⟨_, rfl, rfl, rfl, rfl⟩
section
variable {Z : Nat → Prop} {Stop : Goroutine → World → Prop} {w : World} {tr : Array Value} {k : List Item} {cs : List Frame} {ops : Array Oper} {i d s : Nat} {rest : List Nat}
theorem w_move (h : ∃ o, ops[i]? = some o ∧ o.dst = some d ∧ o.op = .move (.tmp s) ∧ o.guard = none) (hk : Wd Tryd.prog Z Stop (G ((fr0 3).at ⟨tr.setIfInBounds d (tr.getD s undef), []⟩ (.inRegion ops rest :: k)) cs) w) : Wd Tryd.prog Z Stop (G ((fr0 3).at ⟨tr, []⟩ (.inRegion ops (i :: rest) :: k)) cs) w := by
  obtain ⟨o, ho, h1, h2, h3⟩ := h
  refine Sin.wd_value ho (by simp [Region.wanted, h3]) (by intro h; cases h) fun d' hd => ⟨tr.getD s undef, w.at d', ?_, ?_, ?_⟩
  · unfold execOp; simp only [h2]; rfl
  · have e : (execOp (⟨tr, []⟩ : Act).eval o).events Tryd.prog (w.at d') #[] = #[] := by unfold execOp; simp only [h2]; rfl
    rw [e]
    exact ⟨Nat.le_refl _, fun e he => by simp at he⟩
  · rw [h1]
    exact hk.at hd
theorem enter5 {a : Act} {o : Oper} (hop : o.op = .call { callee := .value (.func 5), args := #[.tmp 64, .tmp 65, .tmp 66], argTypes := #[22, 3, 3] }) (w : World) :
    (execOp a.eval o).run Tryd.prog w = .ok (.enter 5 #[a.tmps.getD 64 undef, a.tmps.getD 65 undef, a.tmps.getD 66 undef]) w ∧ (execOp a.eval o).events Tryd.prog w #[] = #[] := by
  have hf : Tryd.prog.funcs[5]? = some Tryd.f5 := by kernel_rfl
  have h1 : (Tryd.f5.name == "runtime.NumGoroutine") = false := by kernel_rfl
  have h2 : Tryd.f5.body.isNone = false := by kernel_rfl
  have h3 : ¬ Tryd.f5.name = "runtime.NumGoroutine" := fun h => by rw [h] at h1; simp at h1
  have h4 : ¬ Tryd.f5.body = none := fun h => by rw [h] at h2; cases h2
  have x0 : a.eval (.func 5) = .func (.func 5) #[] #[] := rfl
  have x1 : a.eval (.tmp 64) = a.tmps.getD 64 undef := rfl
  have x2 : a.eval (.tmp 65) = a.tmps.getD 65 undef := rfl
  have x3 : a.eval (.tmp 66) = a.tmps.getD 66 undef := rfl
  generalize a.eval = ρ at x0 x1 x2 x3 ⊢
  constructor
  · unfold execOp
    simp [hop, resolve, Deferred.ofValue, x0, x1, x2, x3, invoke, callFunc, hf, h3, h4, go_sem]
  · unfold execOp
    simp [hop, resolve, Deferred.ofValue, x0, x1, x2, x3, invoke, callFunc, hf, h3, h4, go_sem]
/-- The slots at the call. -/
def T67 (tr : Array Value) : Array Value := ((tr.setIfInBounds 64 (tr.getD 9 undef)).setIfInBounds 65 (tr.getD 1 undef)).setIfInBounds 66 (tr.getD 2 undef)
noncomputable def F3b (tr : Array Value) : Frame := (fr0 3).at ⟨T67 tr, []⟩ (.inRegion ops15 [3, 4, 5, 6, 7, 8] :: [.code e15])
theorem getD_set' (a : Array Value) {i j : Nat} (h : i ≠ j) (v : Value) : (a.setIfInBounds i v).getD j undef = a.getD j undef := by
  simp [Array.getD_eq_getD_getElem?, h]
theorem getD_put (a : Array Value) {i : Nat} (h : i < a.size) (v : Value) : (a.setIfInBounds i v).getD i undef = v := by
  simp [Array.getD_eq_getD_getElem?, h]
theorem T67_get {j : Nat} (h : j < 64) : (T67 tr).getD j undef = tr.getD j undef := by
  unfold T67
  rw [getD_set' _ (by omega), getD_set' _ (by omega), getD_set' _ (by omega)]
theorem into_prices {tl tp : Option Addr} {nl cl n cp cnt i : Nat} {ref kk : Int} (hK : Keys tr tl nl cl ref kk cnt i (.slice tp n cp)) (h : Wd Tryd.prog Z Stop (p0 (F3b tr) [] tp n cp ref kk) w) : Wd Tryd.prog Z Stop (G ((fr0 3).at ⟨tr, []⟩ [.code e3]) []) w := by
  rw [e3_is.1]
  have hz := hK.size
  refine w_seq (wd_same rfl (fun w => stepG_region) ?_)
  rw [ops15_size.1]
  refine w_move at15_0 (w_move at15_1 (w_move at15_2 ?_))
  rw [getD_set' _ (show 64 ≠ 1 by decide), getD_set' _ (show 65 ≠ 2 by decide), getD_set' _ (show 64 ≠ 2 by decide)]
  obtain ⟨o, ho, h1, h2, h3⟩ := at15_3
  refine Sin.wd_enter (f := 5) ho (by simp [Region.wanted, h3]) (by intro h; cases h) (fun w => enter5 h2 w) ?_
  have e64 : (T67 tr).getD 64 undef = .slice tp n cp := by
    unfold T67
    rw [getD_set' _ (by decide), getD_set' _ (by decide), getD_put _ (by omega)]; exact hK.k9
  have e65 : (T67 tr).getD 65 undef = .int .i64 ref := by
    unfold T67
    rw [getD_set' _ (by decide), getD_put _ (by simp; omega)]; exact hK.k1
  have e66 : (T67 tr).getD 66 undef = .int .i64 kk := by
    unfold T67
    rw [getD_put _ (by simp; omega)]; exact hK.k2
  show Wd Tryd.prog Z Stop (G (Frame.enter Tryd.prog 5 #[(T67 tr).getD 64 undef, (T67 tr).getD 65 undef, (T67 tr).getD 66 undef] .normal) [(fr0 3).at ⟨T67 tr, []⟩ (.inRegion ops15 [3, 4, 5, 6, 7, 8] :: [.code e15])]) w
  rw [e64, e65, e66]
  exact h
theorem f3b_back (v : Value) : (F3b tr).finish v = (fr0 3).at ⟨(T67 tr).setIfInBounds 67 v, []⟩ (.inRegion ops15 [4, 5, 6, 7, 8] :: [e15].map .code) := by
  obtain ⟨o, ho, h1, h2, h3⟩ := at15_3
  unfold F3b
  rw [Frame.finish_at, ho]
  simp [h1, Act.put]
end
end Px
end Go.Proofs.YtbkjjknlphlhlaaDoor
namespace Go.Proofs.YtbkjjknlphlhlaaDoor
namespace Px
open Go.Conc Go.ConcN Sim Sin Sf Mc Hd Mb Ev
open Go.RowKit
set_option maxRecDepth 100000
/-- What the law wants for the workers, and for how many lists. -/
def wantW (kk : Int) (n : Nat) : Int := if 1 ≤ kk ∧ kk ≤ 16 then (if 100 < n then 2 else 0) else 3
set_option maxHeartbeats 1000000 in
theorem workers_any (kk : Int) (n : Nat) (w : World) : Calls Tryd.prog 6 #[.int .i64 kk, .int .i64 n, .int .i64 100] w fun e w' => e = .returned (.agg #[.int .i64 (wantW kk n), .int .i64 (-1)]) ∧ Below w.heap.size w w' := by
  have hb0 : Below w.heap.size w (w.alloc (.cells #[.int .i64 0, .int .i64 0] 31)) := (Below.refl _ _).alloc (Nat.le_refl _) _
  obtain ⟨w0, hw0⟩ : ∃ w0, w.alloc (.cells #[.int .i64 0, .int .i64 0] 31) = w0 := ⟨_, rfl⟩
  have r0 : w0.cell? ⟨w.heap.size, 0, none⟩ = some (.int .i64 0) := by rw [← hw0, World.cell?_alloc_at _ _ _ _ (by simp)]; rfl
  have r1 : w0.cell? ⟨w.heap.size, 1, none⟩ = some (.int .i64 0) := by rw [← hw0, World.cell?_alloc_at _ _ _ _ (by simp)]; rfl
  have hsz : w0.heap.size = w.heap.size + 1 := by rw [← hw0]; simp
  have hfz : ∀ o, w0.frozen? ⟨w.heap.size, o, none⟩ = false := fun o => by
    rw [← hw0]
    have : (w.alloc (.cells #[.int .i64 0, .int .i64 0] 31)).heap[w.heap.size]? = some (.cells #[.int .i64 0, .int .i64 0] 31) := by show (w.heap.push _)[w.heap.size]? = _; simp
    unfold World.frozen?; rw [this]; simp
  rw [hw0] at hb0
  have HB0 := hide hb0; have R0 := hide r0; have R1 := hide r1; have HSZ := hide hsz; have HFZ := hide hfz; have HW0 := hide hw0
  -- what is told is laid, and comes back
  have fin : ∀ (c : Int) (w2 : World), Below w0.heap.size w0 w2 → ((w2.setCell ⟨w.heap.size, 0, none⟩ (.int .i64 c)).setCell ⟨w.heap.size, 1, none⟩ (.int .i64 (-1))).cell? ⟨w.heap.size, 0, none⟩ = some (.int .i64 c) ∧ ((w2.setCell ⟨w.heap.size, 0, none⟩ (.int .i64 c)).setCell ⟨w.heap.size, 1, none⟩ (.int .i64 (-1))).cell? ⟨w.heap.size, 1, none⟩ = some (.int .i64 (-1)) ∧ Below w.heap.size w ((w2.setCell ⟨w.heap.size, 0, none⟩ (.int .i64 c)).setCell ⟨w.heap.size, 1, none⟩ (.int .i64 (-1))) := fun c w2 hb2 => by
    have q0 := cell_later hb2 r0
    have q1 := cell_later hb2 r1
    have := two_cells (.int .i64 c) (.int .i64 (-1)) q0 q1
    refine ⟨this.1, this.2, ?_⟩
    have hb : Below w.heap.size w w2 := hb0.trans (hb2.mono hb0.size)
    exact (hb.setCell (p := ⟨w.heap.size, 0, none⟩) (Nat.le_refl _) _).setCell (p := ⟨w.heap.size, 1, none⟩) (Nat.le_refl _) _
  have HF := hide fin
  clear fin hb0 r0 r1 hsz hfz hw0
  go_enter Tryd.func6, Tryd.ntmps6
  have key : ∀ (c : Int) (w2 : World), Below w0.heap.size w0 w2 → w2.cell? ⟨w.heap.size, 0, none⟩ = some (.int .i64 0) ∧ w2.cell? ⟨w.heap.size, 1, none⟩ = some (.int .i64 0) ∧ w2.frozen? ⟨w.heap.size, 0, none⟩ = false ∧ w2.frozen? ⟨w.heap.size, 1, none⟩ = false := fun _ w2 hb2 => by
    have f : ∀ o, w2.frozen? ⟨w.heap.size, o, none⟩ = false := fun o => (World.frozen?_of_block (hb2.block _ (by have := HSZ.out; show w.heap.size < _; omega))).trans (HFZ.out o)
    exact ⟨cell_later hb2 R0.out, cell_later hb2 R1.out, f 0, f 1⟩
  have KEY := hide key
  clear key
  by_cases h1 : kk < 1
  · have e : wantW kk n = 3 := by unfold wantW; rw [if_neg (by omega)]
    rw [e]
    go_wp2_with fail
    rw [HW0.out]
    refine (bare_any 3 w0).mono ?_
    rintro e w2 ⟨rfl, hb2⟩
    obtain ⟨k0, k1, k2, k3⟩ := KEY.out 3 w2 hb2
    obtain ⟨f0, f1, f2⟩ := HF.out 3 w2 hb2
    simp only []
    go_wp2
    refine bodyPost_ret (v := .agg #[.int .i64 3, .int .i64 (-1)]) (by simp [results, Tryd.results6, go_sem, f0, f1]) rfl ⟨rfl, f2⟩
  · by_cases h2 : kk > 16
    · have e : wantW kk n = 3 := by unfold wantW; rw [if_neg (by omega)]
      rw [e]
      go_wp2_with fail
      rw [HW0.out]
      refine (bare_any 3 w0).mono ?_
      rintro e w2 ⟨rfl, hb2⟩
      obtain ⟨k0, k1, k2, k3⟩ := KEY.out 3 w2 hb2
      obtain ⟨f0, f1, f2⟩ := HF.out 3 w2 hb2
      simp only []
      go_wp2
      refine bodyPost_ret (v := .agg #[.int .i64 3, .int .i64 (-1)]) (by simp [results, Tryd.results6, go_sem, f0, f1]) rfl ⟨rfl, f2⟩
    · by_cases h3 : 100 < n
      · have e : wantW kk n = 2 := by unfold wantW; rw [if_pos (by omega), if_pos h3]
        rw [e]
        have h4 : (n : Int) > 100 := by omega
        go_wp2_with fail
        rw [HW0.out]
        refine (bare_any 2 w0).mono ?_
        rintro e w2 ⟨rfl, hb2⟩
        obtain ⟨k0, k1, k2, k3⟩ := KEY.out 2 w2 hb2
        obtain ⟨f0, f1, f2⟩ := HF.out 2 w2 hb2
        simp only []
        go_wp2
        refine bodyPost_ret (v := .agg #[.int .i64 2, .int .i64 (-1)]) (by simp [results, Tryd.results6, go_sem, f0, f1]) rfl ⟨rfl, f2⟩
      · have e : wantW kk n = 0 := by unfold wantW; rw [if_pos (by omega), if_neg h3]
        rw [e]
        have h4 : ¬ (n : Int) > 100 := by omega
        go_wp2_with fail
        rw [HW0.out]
        refine (fine_any w0).mono ?_
        rintro e w2 ⟨rfl, hb2⟩
        obtain ⟨k0, k1, k2, k3⟩ := KEY.out 0 w2 hb2
        obtain ⟨f0, f1, f2⟩ := HF.out 0 w2 hb2
        simp only []
        go_wp2
        refine bodyPost_ret (v := .agg #[.int .i64 0, .int .i64 (-1)]) (by simp [results, Tryd.results6, go_sem, f0, f1]) rfl ⟨rfl, f2⟩
end Px
end Go.Proofs.YtbkjjknlphlhlaaDoor
namespace Go.Proofs.YtbkjjknlphlhlaaDoor
namespace Px
open Go.Conc Go.ConcN Sim Sin Sf Mc Hd Mb Ev
open Go.RowKit
set_option maxRecDepth 100000
/-- The law's answer is yes, and no old block is turned. -/
def YesQ (w : World) (t : Array Value) (w' : World) : Prop := t.getD 6 undef = .bool true ∧ Old w w'
set_option maxHeartbeats 2000000 in
theorem rest_err (u : Nat → Value) (tl : Option Addr) (nl cl J : Nat) (kk : Int) (ad : Nat → Addr) (w : World) (h0 : u 0 = .slice tl nl cl) (h2 : u 2 = .int .i64 kk) (h67 : u 67 = .tuple #[.slice none 0 0, .iface 145 (.pointer (some (ad J)))])
    (hJ : wantW kk nl = (J : Int) + 1) (hj : J < 12) (hs : Hid (Sent w ad)) : wpRest Tryd.prog ops15 [4, 5, 6, 7, 8] [e15] (YesQ w) (T3 u) w := by
  refine rest_list (k := 4) (l := ops15.toList.drop 4) rfl ?_
  simp only [wpL, ops15, e15, e3, m3, r3, b3, fst, snd, opsOf, Tryd.f3, Option.getD, List.drop, T3, h0, h2, h67]
  have HW := hide (workers_any kk nl w)
  rw [hJ] at HW
  go_wp2_with fail
  refine HW.out.mono ?_
  rintro e w1 ⟨rfl, hb1⟩
  have HB1 := hide hb1
  clear hb1 HW
  simp only []
  go_wp2
  have k0 : ((J : Int) + 1 == 0) = false := by simp; omega
  have k1 : (J : Int) + 1 > 0 := by omega
  go_loopw [15, 16] (fun v i wr => v = .slice none 0 0 ∧ i = .int .i64 0 ∧ wr.cell? ⟨w1.heap.size, 0, none⟩ = some (.int .i64 ((J : Int) + 1)) ∧ wr.cell? ⟨w1.heap.size, 1, none⟩ = some (.int .i64 (-1)) ∧ Below w.heap.size w wr) (fun _ _ _ => 0)
  case atStart =>
    refine ⟨rfl, rfl, ?_, ?_, HB1.out.alloc HB1.out.size _⟩
    · rw [World.cell?_alloc_at _ _ _ _ (by simp)]; rfl
    · rw [World.cell?_alloc_at _ _ _ _ (by simp)]; rfl
  case round =>
    obtain ⟨rfl, rfl, c0, c1, hb⟩ := hrel
    have HB := hide hb
    clear hb
    have HF : Hid (Calls Tryd.prog 9 #[.iface 145 (.pointer (some (ad J))), .agg #[.int .i64 ((J : Int) + 1), .int .i64 (-1)]] wr fun e w' => e = .returned (.bool true) ∧ Below wr.heap.size wr w') := faulted_of _ _ _ _ fun W hb => code_sent J hj ad W (hs.out.later (HB.out.trans (hb.mono HB.out.size)))
    by_cases h : (0 : Int) < nl
    · go_wp2_with fail
      refine HF.out.mono ?_
      rintro e w2 ⟨rfl, hb2⟩
      have HB2 := hide (HB.out.trans (hb2.mono HB.out.size))
      clear hb2 HF
      simp only []
      go_wp2
      exact ⟨.inl rfl, rfl, rfl, Old.below HB2.out⟩
    · go_wp2_with fail
      refine HF.out.mono ?_
      rintro e w2 ⟨rfl, hb2⟩
      have HB2 := hide (HB.out.trans (hb2.mono HB.out.size))
      clear hb2 HF
      simp only []
      go_wp2
      exact ⟨.inl rfl, rfl, rfl, Old.below HB2.out⟩
end Px
end Go.Proofs.YtbkjjknlphlhlaaDoor
namespace Go.Proofs.YtbkjjknlphlhlaaDoor
namespace Px
open Go.Conc Go.ConcN Sim Sin Sf Mc Hd Mb Ev
open Go.RowKit
set_option maxRecDepth 100000
theorem row_below {w w' : World} {base n s : Nat} {e : TypeId} {v : Value} {xs : List Value} (h : w.ownsRow base e s v n xs) (hb : Below w.heap.size w w') : w'.ownsRow base e s v n xs := by
  refine ⟨h.1, ?_⟩
  rcases h.2 with h | ⟨g, cap, cur, e1, hb', hg, h1⟩
  · exact .inl h
  · exact .inr ⟨g, cap, cur, e1, hb', (hb.block g (Array.getElem?_eq_some_iff.1 hg).1).trans hg, h1⟩
/-- The law's own box says so. -/
def BoxIs (w : World) (b : Nat) (c at_ : Int) : Prop := w.cell? ⟨b, 0, none⟩ = some (.int .i64 c) ∧ w.cell? ⟨b, 1, none⟩ = some (.int .i64 at_) ∧ ∀ o, w.frozen? ⟨b, o, none⟩ = false
theorem BoxIs.lt {w : World} {b : Nat} {c a : Int} (h : BoxIs w b c a) : b < w.heap.size := World.block_lt_of_cell? _ _ h.1
theorem BoxIs.below {w w' : World} {b : Nat} {c a : Int} (h : BoxIs w b c a) (hb : Below w.heap.size w w') : BoxIs w' b c a :=
  ⟨cell_later hb h.1, cell_later hb h.2.1, fun o => (World.frozen?_of_block (hb.block _ h.lt)).trans (h.2.2 o)⟩
theorem BoxIs.grown {w w' : World} {b : Nat} {row : Option Nat} {c a : Int} (h : BoxIs w b c a) (hb : w.grownBy w' row) (hn : some b ≠ row) : BoxIs w' b c a :=
  ⟨hb.cell h.1 hn, hb.cell h.2.1 hn, fun o => (World.frozen?_of_block (hb.block _ h.lt hn)).trans (h.2.2 o)⟩
/-- What the law's last loop meets: lists that are fine, up to one that is not. -/
structure Met (w : World) (tl : Option Addr) (nl : Nat) (V : Nat → Value) (Ls : Nat → List Cv.Lot) (ref : Int) (m J : Nat) (P : Nat → Int) : Prop where
  cell : ∀ i, i < nl → ∃ ta, tl = some ta ∧ w.cell? (ta.add i) = some (V i) ∧ Came w (V i) (Ls i)
  le : m ≤ nl
  fine : ∀ i, i < m → Fine (Ls i) ref (P i)
  bad : m < nl → Bad (Ls m) ref J
/-- Where the law's last loop is. -/
def Lp2 (w : World) (bx nl m J : Nat) (P : Nat → Int) (v i : Value) (wr : World) : Prop :=
  Below w.heap.size w wr ∧ bx < wr.heap.size ∧ ((∃ q : Nat, q ≤ m ∧ i = .int .i64 q ∧ BoxIs wr bx 0 (-1) ∧ wr.ownsRow (bx + 1) 3 1 v q (ints P q)) ∨ (m < nl ∧ i = .int .i64 ((m + 1 : Nat) : Int) ∧ BoxIs wr bx ((J : Int) + 1) m))
/-- What the law held, and what Prices gave. -/
structure Told (w : World) (ad : Nat → Addr) (nl m J : Nat) (P : Nat → Int) (x y : Value) : Prop where
  all : m = nl → y = .nilIface ∧ IntsAt w x nl P
  one : m < nl → J < 12 ∧ x = .slice none 0 0 ∧ ∃ B, y = .iface 56 (.pointer (some ⟨B, 0, none⟩)) ∧ w.cell? ⟨B, 0, none⟩ = some (.int .i64 m) ∧ w.cell? ⟨B, 1, none⟩ = some (.iface 145 (.pointer (some (ad J))))
theorem lp_next {w wr w4 w5 : World} {bx q : Nat} {v : Value} {xs : List Value} {o : Obj} (hB : Below w.heap.size w wr) (hX : BoxIs wr bx 0 (-1)) (hR : wr.ownsRow (bx + 1) 3 1 v q xs) (h5 : Below wr.heap.size wr w4) (hg : (w4.alloc o).grownBy w5 v.ownBlock) (hw : w.heap.size ≤ bx) : Below w.heap.size w w5 ∧ bx < w5.heap.size ∧ BoxIs w5 bx 0 (-1) := by
  have hne : ∀ b, b ≤ bx → some b ≠ v.ownBlock := fun b hb e => by have := (hR.lt b e.symm).1; omega
  have hb6 : Below wr.heap.size wr (w4.alloc o) := h5.alloc h5.size _
  have h6 := hB.trans (hb6.mono hB.size)
  have hX6 := hX.below hb6
  exact ⟨⟨hg.os.trans h6.os, hg.tape.trans h6.tape, hg.output.trans h6.output, Nat.le_trans h6.size hg.size, fun b hb => (hg.block b (Nat.lt_of_lt_of_le hb h6.size) (hne b (by omega))).trans (h6.block b hb)⟩, Nat.lt_of_lt_of_le hX6.lt hg.size, hX6.grown hg (hne bx (Nat.le_refl _))⟩
theorem lp_box {w w3 : World} {bx : Nat} {c0 a0 : Int} (hB : Below w.heap.size w w3) (hX : BoxIs w3 bx c0 a0) (hw : w.heap.size ≤ bx) (c a : Int) : Below w.heap.size w ((w3.setCell ⟨bx, 0, none⟩ (.int .i64 c)).setCell ⟨bx, 1, none⟩ (.int .i64 a)) ∧ bx < ((w3.setCell ⟨bx, 0, none⟩ (.int .i64 c)).setCell ⟨bx, 1, none⟩ (.int .i64 a)).heap.size ∧ BoxIs ((w3.setCell ⟨bx, 0, none⟩ (.int .i64 c)).setCell ⟨bx, 1, none⟩ (.int .i64 a)) bx c a := by
  have h2 := two_cells (.int .i64 c) (.int .i64 a) hX.1 hX.2.1
  exact ⟨(hB.setCell (p := ⟨bx, 0, none⟩) hw _).setCell (p := ⟨bx, 1, none⟩) hw _, World.block_lt_of_cell? _ _ h2.1, h2.1, h2.2, fun o => (World.frozen?_setCell _ _ _ _).trans ((World.frozen?_setCell _ _ _ _).trans (hX.2.2 o))⟩
set_option maxHeartbeats 4000000 in
theorem rest_went (u : Nat → Value) (tl : Option Addr) (nl cl m J : Nat) (ref kk : Int) (ad : Nat → Addr) (V : Nat → Value) (Ls : Nat → List Cv.Lot) (P : Nat → Int) (x y : Value) (w : World) (h0 : u 0 = .slice tl nl cl) (h1 : u 1 = .int .i64 ref) (h2 : u 2 = .int .i64 kk) (h67 : u 67 = .tuple #[x, y])
    (hW : wantW kk nl = 0) (hn : nl ≤ 100) (hs : Hid (Sent w ad)) (hM : Hid (Met w tl nl V Ls ref m J P)) (hT : Hid (Told w ad nl m J P x y)) : wpRest Tryd.prog ops15 [4, 5, 6, 7, 8] [e15] (YesQ w) (T3 u) w := by
  refine rest_list (k := 4) (l := ops15.toList.drop 4) rfl ?_
  simp only [wpL, ops15, e15, e3, m3, r3, b3, fst, snd, opsOf, Tryd.f3, Option.getD, List.drop, T3, h0, h1, h2, h67]
  have HW := hide (workers_any kk nl w)
  rw [hW] at HW
  clear h0 h1 h2 h67
  go_wp2_with fail
  refine HW.out.mono ?_
  rintro e w1 ⟨rfl, hb1⟩
  have HB1 := hide hb1
  clear hb1 HW
  simp only []
  go_wp2
  go_loopw [15, 16] (Lp2 w w1.heap.size nl m J P) (fun _ i _ => nl - (intOf i).toNat)
  case atStart =>
    refine ⟨HB1.out.alloc HB1.out.size _, by simp, .inl ⟨0, Nat.zero_le _, rfl, ⟨?_, ?_, ?_⟩, World.ownsRow_nil _ _ _ _⟩⟩
    · rw [World.cell?_alloc_at _ _ _ _ (by simp)]; rfl
    · rw [World.cell?_alloc_at _ _ _ _ (by simp)]; rfl
    · intro o
      unfold World.frozen?
      rw [show (w1.alloc (.cells #[.int .i64 0, .int .i64 (-1)] 31)).heap[w1.heap.size]? = some (.cells #[.int .i64 0, .int .i64 (-1)] 31) from by show (w1.heap.push _)[w1.heap.size]? = _; simp]
      simp
  case round =>
    obtain ⟨hb, hlt, ⟨q, hq, rfl, hbox, hrow⟩ | ⟨hm, rfl, hbox⟩⟩ := hrel
    · have HB := hide hb; have HX := hide hbox; have HR := hide hrow
      clear hb hbox hrow
      by_cases hqn : q < nl
      · obtain ⟨ta, htl, hc, hcm⟩ := hM.out.cell q hqn
        subst htl
        have hki : (q : Int) < nl := by omega
        have hv := cell_later HB.out hc
        have HC := hide (hcm.later HB.out)
        have HL := hide (lotsFault_tells (V q) (Ls q) wr HC.out)
        have c0 := HX.out.1
        clear hc hcm
        go_wp2_with fail
        refine HL.out.mono ?_
        rintro e w2 ⟨⟨c, a, rfl, htell⟩, hb2⟩
        have HB2 := hide hb2; have HT2 := hide htell
        clear hb2 htell HL
        simp only []
        have hb3 : Below wr.heap.size wr (w2.alloc (.cells #[.int .i64 c, .int .i64 a] 31)) := HB2.out.alloc HB2.out.size _
        have HB3 := hide hb3
        obtain ⟨d0, d1, hf⟩ := HX.out.below HB3.out
        have f0 := hf 0
        have f1 := hf 1
        have hv3 := cell_later HB3.out hv
        clear hb3 hf
        by_cases hqm : q < m
        · obtain ⟨hwell, hin, vol0, hwon⟩ := hM.out.fine q hqm
          obtain ⟨rfl, rfl⟩ := HT2.out w2 ad .nilIface 0 (-1) (.inr (.inl ⟨hwell, rfl, rfl, rfl⟩))
          simp only [Wi.withinB, Bool.and_eq_true, decide_eq_true_eq] at hin
          have n1 : ¬ ref < 1 := by omega
          have n2 : ¬ ref > 1000 := by omega
          have HP := hide (priceOf_any (V q) (Ls q) ref _ (HC.out.later HB3.out) hwell hin.1 hin.2)
          have HWON := hide hwon
          clear hin hwell hwon
          go_wp2_with fail
          refine HP.out.mono ?_
          rintro e w4 ⟨⟨p, vol, rfl, hwon⟩, hb4⟩
          obtain ⟨rfl, _⟩ := hwon.unique HWON.out
          have HB4 := hide hb4
          clear hb4 hwon HP
          simp only []
          obtain ⟨i0, hi0, hz0, hz1, hz2⟩ := info3
          have Hi := hide hi0; have Hz0 := hide hz0; have Hz1 := hide hz1; have Hz2 := hide hz2
          have HR4 : Hid (w4.ownsRow (w1.heap.size + 1) 3 1 u15 q (ints P q)) := row_below HR.out (HB3.out.trans (HB4.out.mono HB3.out.size))
          have HB5 : Hid (Below wr.heap.size wr w4) := HB3.out.trans (HB4.out.mono HB3.out.size)
          clear hi0 hz0 hz1 hz2 HWON HB4 HB3
          go_wp2_with (at_builtin; refine wpList_append_own_at _ rfl _ _ 25 rfl (w1.heap.size + 1) 3 i0 (.int .i64 0) 1 8 Tryd.underlying25 Hi.out Hz0.out Hz1.out Hz2.out rfl (by decide) _ _ _ rfl (HR4.out.alloc _) ⟨w4.heap.size, 0, none⟩ 1 1 [.int .i64 (P q)] rfl rfl ?c1 ?c2 ?c3 ?c4 ?c5 ?_)
          case c1 =>
            intro j u hj
            match j, hj with
            | 0, hj =>
              have hj : Value.int .i64 (P q) = u := by simpa using hj
              subst hj
              show World.cell? _ ⟨w4.heap.size, 0, none⟩ = _
              rw [World.cell?_alloc_new]
              rfl
            | j + 1, hj => simp at hj
          case c2 =>
            intro u hu
            have hu : u = .int .i64 (P q) := by simpa using hu
            rw [hu]; rfl
          case c3 => unfold maxLen; omega
          case c4 => omega
          case c5 =>
            have := HB5.out.size
            simp; omega
          intro v5 w5 hown' hgrow _ hloc
          have HO5 : Hid (w5.ownsRow (w1.heap.size + 1) 3 1 v5 (q + 1) (ints P (q + 1))) := by
            show w5.ownsRow _ _ _ _ _ _
            rw [ints_succ]
            exact hown'
          have HG5 := hide hgrow
          clear hown' hgrow hloc
          go_wp2
          obtain ⟨z1, z2, z3⟩ := lp_next HB.out HX.out HR.out HB5.out HG5.out HB1.out.size
          exact ⟨⟨z1, z2, .inl ⟨q + 1, by omega, by go_num, z3, HO5.out⟩⟩, by simp [intOf]; omega⟩
        · have hqe : q = m := by omega
          subst hqe
          have hbad := hM.out.bad hqn
          rcases hbad with ⟨hwell, hin, rfl⟩ | ⟨hnw, W', ad', x', at', herr⟩
          · obtain ⟨rfl, rfl⟩ := HT2.out w2 ad .nilIface 0 (-1) (.inr (.inl ⟨hwell, rfl, rfl, rfl⟩))
            by_cases n1 : ref < 1
            · go_wp2
              obtain ⟨z1, z2, z3⟩ := lp_box (HB.out.trans (HB3.out.mono HB.out.size)) (HX.out.below HB3.out) HB1.out.size 2 q
              exact ⟨⟨z1, z2, .inr ⟨hqn, by go_num, z3⟩⟩, by simp [intOf]; omega⟩
            · have n2 : ref > 1000 := by
                simp only [Wi.withinB, Bool.and_eq_false_iff, decide_eq_false_iff_not] at hin
                omega
              go_wp2
              obtain ⟨z1, z2, z3⟩ := lp_box (HB.out.trans (HB3.out.mono HB.out.size)) (HX.out.below HB3.out) HB1.out.size 2 q
              exact ⟨⟨z1, z2, .inr ⟨hqn, by go_num, z3⟩⟩, by simp [intOf]; omega⟩
          · obtain ⟨rfl, rfl⟩ := HT2.out W' ad' x' _ at' herr
            have k0 : ((J : Int) + 1 == 0) = false := by simp; omega
            have k1 : (J : Int) + 1 > 0 := by omega
            go_wp2
            obtain ⟨z1, z2, z3⟩ := lp_box (HB.out.trans (HB3.out.mono HB.out.size)) (HX.out.below HB3.out) HB1.out.size ((J : Int) + 1) q
            exact ⟨⟨z1, z2, .inr ⟨hqn, by go_num, z3⟩⟩, by simp [intOf]; omega⟩
      · have hle := hM.out.le
        obtain rfl : q = nl := by omega
        have hmq : m = q := by omega
        subst hmq
        have hnl : ¬ (m : Int) < m := by omega
        obtain ⟨rfl, hx⟩ := hT.out.all rfl
        have HS := hide (sameInts_any m P wr (by omega) (hx.below HB.out) (ints_at HR.out))
        have c0 := HX.out.1
        clear hx
        go_wp2_with fail
        refine HS.out.mono ?_
        rintro e w2 ⟨rfl, hb2⟩
        have HB2 := hide (HB.out.trans (hb2.mono HB.out.size))
        clear hb2 HS
        simp only []
        go_wp2
        exact ⟨.inl rfl, rfl, rfl, Old.below HB2.out⟩
    · have HB := hide hb; have HX := hide hbox
      clear hb hbox
      have c0 := HX.out.1
      have c1 := HX.out.2.1
      obtain ⟨hJ, rfl, B, rfl, b0, b1⟩ := hT.out.one hm
      have k0 : ((J : Int) + 1 == 0) = false := by simp; omega
      have k1 : (J : Int) + 1 > 0 := by omega
      have HF : Hid (Calls Tryd.prog 9 #[.iface 56 (.pointer (some ⟨B, 0, none⟩)), .agg #[.int .i64 ((J : Int) + 1), .int .i64 m]] wr fun e w' => e = .returned (.bool true) ∧ Below wr.heap.size wr w') := faulted_of _ _ _ _ fun W hb => code_fault B 0 m J hJ ad W (hs.out.later (HB.out.trans (hb.mono HB.out.size))) (cell_later (HB.out.trans (hb.mono HB.out.size)) b0) (cell_later (HB.out.trans (hb.mono HB.out.size)) b1)
      clear b0 b1
      by_cases hqn : ((m + 1 : Nat) : Int) < nl
      all_goals
        go_wp2_with fail
        refine HF.out.mono ?_
        rintro e w2 ⟨rfl, hb2⟩
        have HB2 := hide (HB.out.trans (hb2.mono HB.out.size))
        clear hb2 HF
        simp only []
        go_wp2
        exact ⟨.inl rfl, rfl, rfl, Old.below HB2.out⟩
end Px
end Go.Proofs.YtbkjjknlphlhlaaDoor
