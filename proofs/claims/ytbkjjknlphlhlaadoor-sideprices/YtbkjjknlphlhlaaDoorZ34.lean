/- The way of the main from Prices to each, ON: the frames that wait below each. -/
import Derived.Test.YtbkjjknlphlhlaaDoorZ06
import Derived.Test.YtbkjjknlphlhlaaDoorZ33
namespace Go.Proofs.YtbkjjknlphlhlaaDoor
namespace Px
open Go.Conc Sim Ev Wy Mc
set_option maxRecDepth 100000
def fst : Code → Code
  | .seq a _ => a
  | c => c
def snd : Code → Code
  | .seq _ b => b
  | c => c
def opsOf : Code → Array Oper
  | .region _ ops _ => ops
  | _ => #[]
noncomputable def b5 : Code := Tryd.f5.body.getD .skip
noncomputable def ops5 : Array Oper := opsOf (fst (snd b5))
noncomputable def b11 : Code := Tryd.f11.body.getD .skip
/-- answers' loop with the region ahead of it, and what stands behind. -/
noncomputable def w11 : Code := fst (snd (snd (snd (snd b11))))
noncomputable def e11 : Code := snd (snd (snd (snd (snd b11))))
noncomputable def ops11 : Array Oper := opsOf (fst w11)
noncomputable def l11 : Code := snd w11
def fr0 (f : FuncId) : Frame := { fn := f, tmps := #[], todo := [], defers := [], mode := .run, kind := .normal }
section
variable (c : Frame) (cs : List Frame) (tp : Option Addr) (n cp : Nat) (ref k : Int) (N N2 N3 N4 : Nat)
def fv : Value := .func (.func 12) #[] #[.pointer (some ⟨N, 0, none⟩)]
def T5 : Array Value := #[.slice tp n cp, .int .i64 ref, .int .i64 k, undef, .pointer (some ⟨N, 0, none⟩), undef, .slice none 0 0, .nilIface, .slice tp n cp, .int .i64 k, fv N, undef, undef, undef]
noncomputable def F5 : Frame := (fr0 5).at ⟨T5 tp n cp ref k N, []⟩ (.inRegion ops5 [3, 4, 5, 6, 7] :: [.code .ret])
def T11 : Array Value := #[.slice tp n cp, .int .i64 100, .int .i64 k, fv N, undef, undef, undef, undef, .slice none 0 0, .nilIface, .slice (some ⟨N2, 0, none⟩) 0 n, undef, undef, .int .i64 k, .bool true, .bool false, undef, .slice tp n cp, .int .i64 n, .int .i64 100, .bool false, undef,
  .slice tp n cp, .int .i64 n, .slice (some ⟨N2, 0, none⟩) 0 n, .slice tp n cp, .int .i64 k, fv N, undef, undef, undef, undef, undef, undef, undef, undef, undef, undef, undef, undef, undef, undef, undef, undef, undef, undef, undef, undef, undef, undef, undef, undef]
noncomputable def F11 : Frame := (fr0 11).at ⟨T11 tp n cp k N N2, []⟩ (.inRegion ops11 [3, 4, 5] :: [.code l11, .code e11])
/-- Into each. -/
noncomputable def q0 : Goroutine := G (Frame.enter Tryd.prog 22 #[.slice tp n cp, .int .i64 k, fv N] .normal) (F11 tp n cp k N N2 :: F5 tp n cp ref k N :: c :: cs)
noncomputable def q1 : Goroutine := adv Tryd.prog true 2 (q0 c cs tp n cp ref k N N2)
theorem p6q (hk : 1 ≤ k) (hk2 : k ≤ 16) : Still Tryd.prog true 11 (p6 c cs tp n cp ref k N N2) (q1 c cs tp n cp ref k N N2) := by
  have : k = 1 ∨ k = 2 ∨ k = 3 ∨ k = 4 ∨ k = 5 ∨ k = 6 ∨ k = 7 ∨ k = 8 ∨ k = 9 ∨ k = 10 ∨ k = 11 ∨ k = 12 ∨ k = 13 ∨ k = 14 ∨ k = 15 ∨ k = 16 := by omega
  rcases this with rfl | rfl | rfl | rfl | rfl | rfl | rfl | rfl | rfl | rfl | rfl | rfl | rfl | rfl | rfl | rfl <;> exact still_to (still_of (fun w => by kernel_rfl) (by kernel_rfl) (by kernel_rfl)) (by kernel_rfl)
theorem q1_run : (q1 c cs tp n cp ref k N N2).status = .running := by kernel_rfl
noncomputable def q2 : Goroutine := fin (q1 c cs tp n cp ref k N N2) (.pointer (some ⟨N3, 0, none⟩))
theorem q2_run : (q2 c cs tp n cp ref k N N2 N3).status = .running := by kernel_rfl
noncomputable def q3 : Goroutine := fin (q2 c cs tp n cp ref k N N2 N3) (.pointer (some ⟨N4, 0, none⟩))
theorem q12 (w : World) : stepG Tryd.prog true (q1 c cs tp n cp ref k N N2) w = .go (q2 c cs tp n cp ref k N N2 w.heap.size) (w.alloc (.cells #[.slice tp n cp] 22)) #[] := by kernel_rfl
theorem q23 (w : World) : stepG Tryd.prog true (q2 c cs tp n cp ref k N N2 N3) w = .go (q3 c cs tp n cp ref k N N2 N3 w.heap.size) (w.alloc (.cells #[fv N] 42)) #[] := by kernel_rfl
def T22 : Array Value := #[.slice tp n cp, .int .i64 k, fv N, .pointer (some ⟨N3, 0, none⟩), undef, .pointer (some ⟨N4, 0, none⟩), .slice none 0 0, undef, undef, undef, undef, undef, undef, undef, undef, undef, undef, undef, undef, undef, undef, undef, undef, undef, undef, undef, undef]
theorem q34 : Still Tryd.prog true 3 (q3 c cs tp n cp ref k N N2 N3 N4) (G ((fr0 22).at ⟨T22 tp n cp k N N3 N4, []⟩ (.code eR1 :: [.code eT1])) (F11 tp n cp k N N2 :: F5 tp n cp ref k N :: c :: cs)) := still_to (still_of (fun w => by kernel_rfl) (by kernel_rfl) (by kernel_rfl)) (by kernel_rfl)
end
end Px
end Go.Proofs.YtbkjjknlphlhlaaDoor
namespace Go.Proofs.YtbkjjknlphlhlaaDoor
namespace Px
open Go.Conc Sim Ev Wy Mc
open Go.ConcR (WgAt)
set_option maxRecDepth 100000

theorem run_wg (w : World) : (Instr.alloc 83 true (.tuple #[])).run Tryd.prog w = .ok (.pointer (some ⟨w.heap.size, 0, none⟩)) (w.alloc (Go.ConcR.wgBlock 83 0 0)) ∧ (Instr.alloc 83 true (.tuple #[])).events Tryd.prog w #[] = #[] := ⟨by kernel_rfl, by kernel_rfl⟩
noncomputable def ops83 : Array Oper := opsOf eR2
theorem eR2_is : eT1 = .seq (.region 2 ops83 false) eT2 := by kernel_rfl
theorem o83 : opOf 0 ops83 = some (some 9, .alloc 83, none, []) := by kernel_rfl
theorem o83_size : ops83.size = 1 := by kernel_rfl
theorem z6_is (c : Frame) (cs : List Frame) (V : Array Value) : G ((fr0 22).at ⟨V, []⟩ [.code eT2]) (c :: cs) = Z6 c cs V ∧ True := ⟨by kernel_rfl, trivial⟩

/-- What stands ahead of the group's making. -/
structure In5 (w w5 : World) (Z : Nat → Prop) (tp : Option Addr) (n cp : Nat) (ref k : Int) (N : Nat) (f : Nat → Nat) (V : Array Value) : Prop where
  N_eq : N = w.heap.size
  size : V.size = 27
  a1 : V[1]? = some (.int .i64 k)
  a3 : V[3]? = some (.pointer (some ⟨N + 2, 0, none⟩))
  a5 : V[5]? = some (.pointer (some ⟨N + 3, 0, none⟩))
  a7 : V[7]? = some (.pointer (some ⟨f 2, 0, none⟩))
  a8 : V[8]? = some (.pointer (some ⟨f 3, 0, none⟩))
  bnd : ∀ i, i < 4 → N + 4 ≤ f i ∧ f i < w5.heap.size
  ne : ∀ i j, i < 4 → j < 4 → i ≠ j → f i ≠ f j
  big : N + 4 ≤ w5.heap.size
  ref_ : w5.heap[N]? = some (.cells #[.int .i64 ref] 3)
  ints : w5.heap[N + 1]? = some (ints0 n)
  tasks : w5.heap[N + 2]? = some (.cells #[.slice tp n cp] 22)
  do_ : w5.heap[N + 3]? = some (.cells #[fv N] 42)
  b7 : w5.heap[f 2]? = some (.cells #[.chan (some (f 0))] 72)
  b8 : w5.heap[f 3]? = some (.cells #[.chan (some (f 1))] 73)
  cn : w5.heap[f 0]? = some chan0
  cd : w5.heap[f 1]? = some chan0
  keep : ∀ b, b < w.heap.size → ¬ Z b → w5.heap[b]? = w.heap[b]?
  os : w5.os = w.os
  output : w5.output = w.output
section
variable {Z : Nat → Prop} {Stop : Goroutine → World → Prop} {w : World} {c : Frame} {cs : List Frame} {tp : Option Addr} {n cp : Nat} {ref k : Int}
theorem prices_in (hZ : ∀ b, Z b → b < w.heap.size) (hk : 1 ≤ k) (hk2 : k ≤ 16) (hn : n ≤ 100)
    (next : ∀ w5 f V, In5 w w5 Z tp n cp ref k w.heap.size f V → Mb.Wd Tryd.prog Z Stop (G ((fr0 22).at ⟨V, []⟩ (.inRegion ops83 [0] :: [.code eT2])) (F11 tp n cp k w.heap.size (w.heap.size + 1) :: F5 tp n cp ref k w.heap.size :: c :: cs)) w5) : Mb.Wd Tryd.prog Z Stop (p0 c cs tp n cp ref k) w := by
  have sz : ∀ (w : World) (o : Obj), (w.alloc o).heap.size = w.heap.size + 1 := fun w o => by show (w.heap.push o).size = _; simp
  have old : ∀ (w : World) (o : Obj) (b : Nat), b < w.heap.size → (w.alloc o).heap[b]? = w.heap[b]? := fun w o b hb => heap_push (w := w) (o := o) hb
  have new_ : ∀ (w : World) (o : Obj), (w.alloc o).heap[w.heap.size]? = some o := fun w o => by show (w.heap.push o)[w.heap.size]? = some o; simp
  refine Sin.wd_still (p01 c cs tp n cp ref k) (wd_new (p2 c cs tp n cp ref k) (p1_run c cs tp n cp ref k) (p12 c cs tp n cp ref k) ?_)
  refine Sin.wd_still (p23 c cs tp n cp ref k _ hk hk2) (wd_same (p3_run c cs tp n cp ref k _ hk hk2).1 (p34 c cs tp n cp ref k _ hk hk2 hn) ?_)
  refine Sin.wd_still (p45 c cs tp n cp ref k _ hk hk2) (wd_new (p6 c cs tp n cp ref k _) (p5_run c cs tp n cp ref k _ hk hk2).1 (p56 c cs tp n cp ref k _ hk hk2 hn) ?_)
  refine Sin.wd_still (p6q c cs tp n cp ref k _ _ hk hk2) (wd_new (q2 c cs tp n cp ref k _ _) (q1_run c cs tp n cp ref k _ _) (q12 c cs tp n cp ref k _ _) ?_)
  refine wd_new (q3 c cs tp n cp ref k _ _ _) (q2_run c cs tp n cp ref k _ _ _) (q23 c cs tp n cp ref k _ _ _) (Sin.wd_still (q34 c cs tp n cp ref k _ _ _ _) ?_)
  have h1 : (w.alloc (.cells #[.int .i64 ref] 3)).heap.size = w.heap.size + 1 := sz _ _
  have a1 := old w (.cells #[.int .i64 ref] 3)
  have n1 := new_ w (.cells #[.int .i64 ref] 3)
  have o1 : (w.alloc (.cells #[.int .i64 ref] 3)).os = w.os ∧ (w.alloc (.cells #[.int .i64 ref] 3)).output = w.output := ⟨rfl, rfl⟩
  generalize w.alloc (.cells #[.int .i64 ref] 3) = w1 at h1 a1 n1 o1 ⊢
  have h2 : (w1.alloc (ints0 n)).heap.size = w.heap.size + 2 := by rw [sz, h1]
  have a2 := old w1 (ints0 n)
  have n2 := new_ w1 (ints0 n)
  have o2 : (w1.alloc (ints0 n)).os = w.os ∧ (w1.alloc (ints0 n)).output = w.output := o1
  generalize w1.alloc (ints0 n) = w2 at h2 a2 n2 o2 ⊢
  have h3 : (w2.alloc (.cells #[.slice tp n cp] 22)).heap.size = w.heap.size + 3 := by rw [sz, h2]
  have a3 := old w2 (.cells #[.slice tp n cp] 22)
  have n3 := new_ w2 (.cells #[.slice tp n cp] 22)
  have o3 : (w2.alloc (.cells #[.slice tp n cp] 22)).os = w.os ∧ (w2.alloc (.cells #[.slice tp n cp] 22)).output = w.output := o2
  generalize w2.alloc (.cells #[.slice tp n cp] 22) = w3 at h3 a3 n3 o3 ⊢
  have h4 : (w3.alloc (.cells #[fv w.heap.size] 42)).heap.size = w.heap.size + 4 := by rw [sz, h3]
  have a4 := old w3 (.cells #[fv w.heap.size] 42)
  have n4 := new_ w3 (.cells #[fv w.heap.size] 42)
  have o4 : (w3.alloc (.cells #[fv w.heap.size] 42)).os = w.os ∧ (w3.alloc (.cells #[fv w.heap.size] 42)).output = w.output := o3
  generalize w3.alloc (.cells #[fv w.heap.size] 42) = w4 at h4 a4 n4 o4 ⊢
  rw [h1, h2, h3]
  rw [h1] at a2 n2; rw [h2] at a3 n3; rw [h3] at a4 n4
  let A0 : Nat → Prop := fun b => b < w4.heap.size ∧ ¬ Z b
  refine (Sin.wd_of_way (S2 := fun _ _ g w5 => ∃ a, g = G ((fr0 22).at a [.code eT1]) (F11 tp n cp k w.heap.size (w.heap.size + 1) :: F5 tp n cp ref k w.heap.size :: c :: cs) ∧ ∃ A M, Iv6 w4.heap.size A0 w4 (T22 tp n cp k w.heap.size (w.heap.size + 2) (w.heap.size + 3)) (fun _ => true) A M a w5)
    (Stop := fun g w5 => ∃ a, g = G ((fr0 22).at a [.code eT1]) (F11 tp n cp k w.heap.size (w.heap.size + 1) :: F5 tp n cp ref k w.heap.size :: c :: cs) ∧ ∃ A M, Iv6 w4.heap.size A0 w4 (T22 tp n cp k w.heap.size (w.heap.size + 2) (w.heap.size + 3)) (fun _ => true) A M a w5)
    (chans_way (A0 := A0) rfl (by rfl) (fun b hb => hb.1) fun A M a w' h => .stop fun w1 r _ => ⟨a, rfl, A, M, h.rely r⟩) (fun b hb => ⟨hb.2, hb.1⟩) (fun b hb => by have := hZ b hb; omega) fun _ _ _ _ h _ _ => h).seq ?_
  rintro g w5 ⟨a, rfl, A, M, h⟩
  rw [eR2_is]
  refine wd_same rfl (fun w => stepG_seq) (wd_same rfl (fun w => stepG_region) ?_)
  rw [o83_size]
  obtain ⟨f, f1, f2, f3, f4, f5, f6⟩ := h.ex
  have hds := h.ds
  obtain ⟨e7, x7, k7, l7⟩ := f5 rfl
  obtain ⟨e8, x8, k8, l8⟩ := f6 rfl
  rw [l7 rfl] at k7; rw [l8 rfl] at k8
  have kp : ∀ b, b < w.heap.size + 4 → ¬ Z b → w5.heap[b]? = w4.heap[b]? := fun b hb hz => (h.keep b ⟨by omega, hz⟩).2
  have nz : ∀ j, ¬ Z (w.heap.size + j) := fun j hz => by have := hZ _ hz; omega
  obtain ⟨t, ds⟩ := a
  dsimp only at hds e7 e8
  subst hds
  have o := h.old
  have hsz := h.size
  have hl := h.low
  dsimp only at o hsz
  refine next w5 f t ⟨rfl, hsz, ?_, ?_, ?_, e7, e8, fun i hi => ?_, fun i j hi hj hne => f2 i j hi hj hne rfl rfl, by omega, ?_, ?_, ?_, ?_, k7, k8, (f3 rfl).2, (f4 rfl).2, fun b hb hz => ?_, h.os.trans o4.1, h.output.trans o4.2⟩
  · rw [o 1 (by decide) (by decide) (by decide) (by decide)]; rfl
  · rw [o 3 (by decide) (by decide) (by decide) (by decide)]; rfl
  · rw [o 5 (by decide) (by decide) (by decide) (by decide)]; rfl
  · have := f1 i hi rfl
    rw [h4] at this
    exact ⟨this.2.2.1, this.2.2.2⟩
  · rw [kp w.heap.size (by omega) (nz 0), a4 _ (by omega), a3 _ (by omega), a2 _ (by omega)]; exact n1
  · rw [kp _ (by omega) (nz 1), a4 _ (by omega), a3 _ (by omega)]; exact n2
  · rw [kp _ (by omega) (nz 2), a4 _ (by omega)]; exact n3
  · rw [kp _ (by omega) (nz 3)]; exact n4
  · rw [kp b (by omega) hz, a4 b (by omega), a3 b (by omega), a2 b (by omega), a1 b hb]
/-- The group is made: to the loop, touching nothing. -/
theorem group_in {w5 : World} {f : Nat → Nat} {V : Array Value} {cs2 : List Frame} (h : In5 w w5 Z tp n cp ref k w.heap.size f V)
    (next : ∀ d V', w5.drawn ≤ d → VT w5.heap.size ⟨w.heap.size + 2, 0, none⟩ ⟨w.heap.size + 3, 0, none⟩ ⟨f 2, 0, none⟩ ⟨f 3, 0, none⟩ k V' → Stop (Z6 c cs2 V') ((w5.at d).alloc (Go.ConcR.wgBlock 83 0 0))) : Mb.Wd Tryd.prog (fun _ => True) Stop (G ((fr0 22).at ⟨V, []⟩ (.inRegion ops83 [0] :: [.code eT2])) (c :: cs2)) w5 := by
  obtain ⟨o, ho⟩ : ∃ o, ops83[0]? = some o := ⟨_, Array.getElem?_eq_getElem (by rw [o83_size]; decide)⟩
  obtain ⟨hd, hop, hg, _⟩ := opOf_is o83 ho
  refine Sin.wd_value ho (by simp [Region.wanted, hg]) (by intro h; cases h) fun d hd0 => ⟨.pointer (some ⟨w5.heap.size, 0, none⟩), (w5.at d).alloc (Go.ConcR.wgBlock 83 0 0), ?_, ?_, ?_⟩
  · unfold execOp; simp only [hop]; rw [Sem.run_bind, (run_wg _).1]; rfl
  · have e0 : (execOp (⟨V, []⟩ : Act).eval o).events Tryd.prog (w5.at d) #[] = #[] := by unfold execOp; simp only [hop]; rw [Sem.events_bind, (run_wg _).1, (run_wg _).2]; rfl
    rw [e0]
    exact ⟨by show w5.heap.size ≤ (w5.heap.push _).size; simp, fun e he => by simp at he⟩
  · refine wd_same rfl (fun w => stepG_region_end) ?_
    have ep : ((⟨V, []⟩ : Act).put o.dst (.pointer (some ⟨w5.heap.size, 0, none⟩))) = ⟨V.setIfInBounds 9 (.pointer (some ⟨w5.heap.size, 0, none⟩)), []⟩ := by rw [hd]; rfl
    rw [ep, (z6_is _ _ _).1]
    have sl : ∀ s, s ≠ 9 → (V.setIfInBounds 9 (.pointer (some ⟨w5.heap.size, 0, none⟩)))[s]? = V[s]? := fun s hs => by simp [Ne.symm hs]
    refine .stop fun d' hd' => next d' _ (Nat.le_trans hd0 hd') ⟨by simp [h.size], ?_, ?_, ?_, ?_, ?_, by simp [h.size]⟩
    · rw [sl 1 (by decide)]; exact h.a1
    · rw [sl 3 (by decide)]; exact h.a3
    · rw [sl 5 (by decide)]; exact h.a5
    · rw [sl 7 (by decide)]; exact h.a7
    · rw [sl 8 (by decide)]; exact h.a8
end
end Px
end Go.Proofs.YtbkjjknlphlhlaaDoor
namespace Go.Proofs.YtbkjjknlphlhlaaDoor
namespace Px
open Go.Conc Sim Sin
open Go.RowKit
set_option maxRecDepth 100000

/-- Where operations of a region are left to do, as the walks want them. -/
theorem rest_list {ops : Array Oper} {k : Nat} {l : List Oper} {codes : List Code} {R : Array Value → World → Prop} {t : Array Value} {w : World} (hl : ops.toList.drop k = l)
    (h : wpList Tryd.prog ops (Exit.then (wpL Tryd.prog codes (Sin.Ends R)) (Sin.Ends R)) l ⟨t, []⟩ w) : wpRest Tryd.prog ops (List.range' k l.length) codes R t w := by
  unfold wpRest
  rw [wpOps_eq_wpList l k fun j => by rw [← hl, List.getElem?_drop]; simp]
  exact h
def T28 (tp : Option Addr) (n cp : Nat) (k : Int) (N N2 bl : Nat) : Array Value := #[.slice tp n cp, .int .i64 100, .int .i64 k, fv N, undef, undef, undef, undef, .slice none 0 0, .nilIface, .slice (some ⟨N2, 0, none⟩) 0 n, undef, undef, .int .i64 k, .bool true, .bool false, undef, .slice tp n cp, .int .i64 n, .int .i64 100, .bool false, undef,
  .slice tp n cp, .int .i64 n, .slice (some ⟨N2, 0, none⟩) 0 n, .slice tp n cp, .int .i64 k, fv N, .slice (some ⟨bl, 0, none⟩) n n, undef, undef, undef, undef, undef, undef, undef, undef, undef, undef, undef, undef, undef, undef, undef, undef, undef, undef, undef, undef, undef, undef, undef]
theorem f11_back (tp : Option Addr) (n cp : Nat) (k : Int) (N N2 bl : Nat) : (F11 tp n cp k N N2).finish (.slice (some ⟨bl, 0, none⟩) n n) = (fr0 11).at ⟨T28 tp n cp k N N2 bl, []⟩ (.inRegion ops11 [4, 5] :: [l11, e11].map .code) ∧ True := ⟨by kernel_rfl, trivial⟩

/-! ### what is kept -/
theorem grow_trans {w wr w3 : World} {N2 : Nat} {row : Option Nat} (h : w.grownBy wr (some N2)) (k : wr.grownBy w3 row) (hr : ∀ j, row = some j → j = N2 ∨ w.heap.size ≤ j) : w.grownBy w3 (some N2) :=
  ⟨k.os.trans h.os, k.tape.trans h.tape, k.output.trans h.output, Nat.le_trans h.size k.size, fun b hb hn => (k.block b (Nat.lt_of_lt_of_le hb h.size) fun e => by
    rcases hr b e.symm with rfl | h2
    · exact hn rfl
    · omega).trans (h.block b hb hn)⟩
theorem grow_refl (w : World) (row : Option Nat) : w.grownBy w row := ⟨rfl, rfl, rfl, Nat.le_refl _, fun _ _ _ => rfl⟩
theorem grow_alloc (w : World) (o : Obj) : w.grownBy (w.alloc o) none := ⟨rfl, rfl, rfl, by show w.heap.size ≤ (w.heap.push o).size; simp, fun k hk _ => heap_push (w := w) (o := o) hk⟩
theorem grow_below {w w' : World} (h : Below w.heap.size w w') : w.grownBy w' none := ⟨h.os, h.tape, h.output, h.size, fun k hk _ => h.block k hk⟩
/-- Where an error leads that is bare, or a fault. -/
def ErrAt (w : World) (N2 : Nat) (e : Value) (a : Addr) : Prop := e = .iface 145 (.pointer (some a)) ∨ ∃ B, B ≠ N2 ∧ e = .iface 56 (.pointer (some ⟨B, 0, none⟩)) ∧ w.cell? ⟨B, 1, none⟩ = some (.iface 145 (.pointer (some a)))
theorem cell_grown {w wr : World} {N2 : Nat} (h : w.grownBy wr (some N2)) {a : Addr} {v : Value} (hc : w.cell? a = some v) (hn : a.block ≠ N2) : wr.cell? a = some v := h.cell hc fun e => hn (Option.some.inj e)
theorem ErrAt.later {w wr : World} {N2 : Nat} {e : Value} {a : Addr} (h : ErrAt w N2 e a) (hg : w.grownBy wr (some N2)) : ErrAt wr N2 e a := by
  rcases h with h | ⟨B, h1, h2, h3⟩
  · exact .inl h
  · exact .inr ⟨B, h1, h2, cell_grown hg h3 h1⟩
/-- The rows that the workers left. -/
def RowsAt (w : World) (bl n : Nat) (P : Nat → Int) (E : Nat → Value) : Prop := ∀ j, j < n → w.cell? ⟨bl, j * 3, none⟩ = some (.int .i64 j) ∧ w.cell? ⟨bl, j * 3 + 1, none⟩ = some (.int .i64 (P j)) ∧ w.cell? ⟨bl, j * 3 + 2, none⟩ = some (E j)
def ints (P : Nat → Int) (n : Nat) : List Value := (List.range n).map fun j => .int .i64 (P j)
theorem ints_succ (P : Nat → Int) (n : Nat) : ints P (n + 1) = ints P n ++ [.int .i64 (P n)] := by simp [ints, List.range_succ]
/-- A slice of numbers. -/
def IntsAt (w : World) (v : Value) (n : Nat) (P : Nat → Int) : Prop := ∃ a c, v = .slice a n c ∧ ∀ k, k < n → ∃ g, a = some ⟨g, 0, none⟩ ∧ w.cell? ⟨g, k, none⟩ = some (.int .i64 (P k))
theorem ints_at {w : World} {b n : Nat} {v : Value} {P : Nat → Int} (h : w.ownsRow b 3 1 v n (ints P n)) : IntsAt w v n P := by
  rcases h.2 with ⟨rfl, rfl⟩ | ⟨g, cap, cur, rfl, _⟩
  · exact ⟨_, _, rfl, fun k hk => absurd hk (Nat.not_lt_zero k)⟩
  · refine ⟨_, _, rfl, fun k hk => ⟨g, rfl, ?_⟩⟩
    have := h.cells (g := g) rfl k (.int .i64 (P k)) (by simp [ints, hk])
    rwa [show (⟨g, 0, none⟩ : Addr).add k = ⟨g, k, none⟩ by unfold Addr.add; split <;> simp_all] at this
/-- A slice that is nothing, or lies in a row of cells. -/
def Rowed (w : World) (x : Value) : Prop := ∀ a l c, x = .slice (some a) l c → (l = 0 ∧ c = 0) ∨ ∃ cs t fz, w.heap[a.block]? = some (.cells cs t fz)
theorem rowed_at {w : World} {b n s : Nat} {e : TypeId} {v : Value} {xs : List Value} (h : w.ownsRow b e s v n xs) : Rowed w v := fun a l c e => by
  rcases h.2 with ⟨h, _⟩ | ⟨g, cap, cur, h, _, hg, _⟩
  · rw [h] at e; cases e
  · rw [h] at e; cases e
    exact .inr ⟨_, _, _, hg⟩
/-- What is kept, whatever the tape. -/
def Kept (w w' : World) (N2 : Nat) : Prop := w'.os = w.os ∧ w'.output = w.output ∧ w.heap.size ≤ w'.heap.size ∧ ∀ b, b < w.heap.size → b ≠ N2 → w'.heap[b]? = w.heap[b]?
theorem kept_of {w w' : World} {N2 : Nat} (h : w.grownBy w' (some N2)) : Kept w w' N2 := ⟨h.os, h.output, h.size, fun b hb hn => h.block b hb fun e => hn (Option.some.inj e)⟩
def res11 (t : Array Value) : Value := .tuple #[t.getD 8 undef, t.getD 9 undef]
/-- What answers gives. -/
def Gave (w' : World) (N2 n : Nat) (P : Nat → Int) (E : Nat → Value) (v : Value) : Prop :=
  (∃ x, v = .tuple #[x, .nilIface] ∧ (∀ j, j < n → E j = .nilIface) ∧ IntsAt w' x n P ∧ Rowed w' x) ∨
  ∃ j a B, j < n ∧ (∀ i, i < j → E i = .nilIface) ∧ ErrAt w' N2 (E j) a ∧ v = .tuple #[.slice none 0 0, .iface 56 (.pointer (some ⟨B, 0, none⟩))] ∧ w'.cell? ⟨B, 0, none⟩ = some (.int .i64 j) ∧ w'.cell? ⟨B, 1, none⟩ = some (.iface 145 (.pointer (some a)))

theorem ErrAt.weak {w wr : World} {N2 : Nat} {e : Value} {a : Addr} (h : ErrAt w N2 e a) (hg : w.grownBy wr none) : ErrAt wr N2 e a := h.later ⟨hg.os, hg.tape, hg.output, hg.size, fun k hk _ => hg.block k hk (by simp)⟩
theorem aside_at {w : World} {N2 : Nat} {e : Value} {a : Addr} (h : ErrAt w N2 e a) (hg : Hid (w.cell? ⟨12, 0, none⟩ = some (.iface 124 (.agg #[.pointer (some ⟨13, 27, none⟩)])))) : Calls Tryd.prog 23 #[e] w fun e w' => e = .returned (.iface 145 (.pointer (some a))) ∧ Below w.heap.size w w' := by
  rcases h with rfl | ⟨B, _, rfl, h⟩
  · exact aside_plain a w hg
  · exact aside_fault B a w hg h
theorem info3 : ∃ i, Tryd.prog.info? 3 = some i ∧ i.zero = some (.int .i64 0) ∧ i.size = 1 ∧ i.bytes = 8 := ⟨_, rfl, rfl, rfl, rfl⟩
set_option maxHeartbeats 1000000 in
theorem ans_rest (tp : Option Addr) (n cp : Nat) (k : Int) (N N2 bl : Nat) (P : Nat → Int) (E : Nat → Value) (w : World) (hn : n ≤ 100) (hg : Hid (w.cell? ⟨12, 0, none⟩ = some (.iface 124 (.agg #[.pointer (some ⟨13, 27, none⟩)])))) (hN2 : Hid (w.ownsRow N2 3 1 (.slice (some ⟨N2, 0, none⟩) 0 n) 0 []))
    (h12 : 12 < N2) (hbl : bl ≠ N2) (hrows : Hid (RowsAt w bl n P E)) (herr : Hid (∀ j, j < n → E j = .nilIface ∨ ∃ a, ErrAt w N2 (E j) a)) :
    wpRest Tryd.prog ops11 [4, 5] [l11, e11] (fun t w' => Gave w' N2 n P E (res11 t) ∧ Kept w w' N2) (T28 tp n cp k N N2 bl) w := by
  refine rest_list (k := 4) (l := ops11.toList.drop 4) rfl ?_
  simp only [wpL, ops11, l11, e11, w11, b11, fst, snd, opsOf, Tryd.f11, Option.getD, List.drop, T28, fv]
  obtain ⟨i0, hi, hz0, hz1, hz2⟩ := info3
  have Hi := hide hi; have Hz0 := hide hz0; have Hz1 := hide hz1; have Hz2 := hide hz2
  clear hi hz0 hz1 hz2
  go_wp2
  go_loopw [10, 30] (fun v i wr => ∃ q : Nat, q ≤ n ∧ i = .int .i64 q ∧ wr.ownsRow N2 3 1 v q (ints P q) ∧ (∀ b, v.ownBlock = some b → b = N2 ∨ w.heap.size ≤ b) ∧ (∀ j, j < q → E j = .nilIface) ∧ w.grownBy wr (some N2)) (fun _ i _ => n - (intOf i).toNat)
  case atStart => exact ⟨0, Nat.zero_le _, rfl, hN2.out, fun b hb => .inl (Option.some.inj hb).symm, fun j hj => absurd hj (Nat.not_lt_zero j), grow_refl _ _⟩
  case round =>
    obtain ⟨q, hq, rfl, hown, hob, hnil, hgr⟩ := hrel
    have HO := hide hown; have HOB := hide hob; have HN := hide hnil; have HG := hide hgr
    clear hown hob hnil hgr
    by_cases hlt : q < n
    · have hki : (q : Int) < n := by omega
      obtain ⟨c0, c1, c2⟩ := hrows.out q hlt
      have c0 := cell_grown HG.out c0 hbl; have c1 := cell_grown HG.out c1 hbl; have c2 := cell_grown HG.out c2 hbl
      rcases herr.out q hlt with he | ⟨a, he⟩
      · rw [he] at c2
        have HE := hide he
        clear he
        go_wp2_with (at_builtin; refine wpList_append_own_at _ rfl _ _ 25 rfl N2 3 i0 (.int .i64 0) 1 8 Tryd.underlying25 Hi.out Hz0.out Hz1.out Hz2.out rfl (by decide) _ _ _ rfl ((HO.out.alloc _).alloc _) ⟨wr.heap.size + 1, 0, none⟩ 1 1 [.int .i64 (P q)] rfl rfl ?c1 ?c2 ?c3 ?c4 ?c5 ?_)
        case c1 =>
          intro j u hj
          match j, hj with
          | 0, hj =>
            have hj : Value.int .i64 (P q) = u := by simpa using hj
            subst hj
            show World.cell? _ ⟨wr.heap.size + 1, 0, none⟩ = _
            rw [show wr.heap.size + 1 = (wr.alloc (.cells #[.int .i64 q, .int .i64 (P q), .nilIface] 55)).heap.size by simp, World.cell?_alloc_new]
            rfl
          | j + 1, hj => simp at hj
        case c2 =>
          intro u hu
          have hu : u = .int .i64 (P q) := by simpa using hu
          rw [hu]; rfl
        case c3 => unfold maxLen; omega
        case c4 => omega
        case c5 =>
          have := HG.out.size
          have h2 := hN2.out.lt N2 rfl
          simp; omega
        intro v3 w3 hown' hgrow _ hloc
        have HO3 : Hid (w3.ownsRow N2 3 1 v3 (q + 1) (ints P (q + 1))) := by
          show w3.ownsRow _ _ _ _ _ _
          rw [ints_succ]
          exact hown'
        have hsz := HG.out.size
        have HG3 : Hid (w.grownBy w3 (some N2)) := by
          refine grow_trans (grow_trans (grow_trans HG.out (grow_alloc _ _) (fun j e => by cases e)) (grow_alloc _ _) (fun j e => by cases e)) hgrow fun j e => HOB.out j e
        have HOB3 : Hid (∀ b, v3.ownBlock = some b → b = N2 ∨ w.heap.size ≤ b) := fun b hb => by
          rcases hloc with h | h
          · exact HOB.out b (h ▸ hb)
          · rw [h] at hb
            refine .inr ?_
            rw [← Option.some.inj hb]
            first | exact hsz | omega | (simp; omega)
        clear hown' hgrow hloc hsz
        have HN3 : Hid (∀ j, j < q + 1 → E j = .nilIface) := fun j hj => by
          by_cases h : j < q
          · exact HN.out j h
          · obtain rfl : j = q := by omega
            exact HE.out
        go_wp2
        exact ⟨⟨q + 1, by omega, by go_num, HO3.out, HOB3.out, HN3.out, HG3.out⟩, by simp [intOf]; omega⟩
      · have HA := hide (he.later HG.out)
        have hne : E q ≠ .nilIface := by rcases he with h | ⟨B, _, h, _⟩ <;> rw [h] <;> simp
        have h1 : ∃ T V, E q = .iface T V := by rcases he with h | ⟨B, _, h, _⟩ <;> exact ⟨_, _, h⟩
        clear he
        obtain ⟨T, V, hTV⟩ := h1
        rw [hTV] at c2
        have HAW : Hid (ErrAt (wr.alloc (.cells #[.int .i64 q, .int .i64 (P q), .iface T V] 55)) N2 (.iface T V) a) := hTV ▸ (HA.out.weak (grow_alloc _ _))
        have g12 : (wr.alloc (.cells #[.int .i64 q, .int .i64 (P q), .iface T V] 55)).cell? ⟨12, 0, none⟩ = some (.iface 124 (.agg #[.pointer (some ⟨13, 27, none⟩)])) := (grow_alloc wr _).cell (cell_grown HG.out hg.out (by show 12 ≠ N2; omega)) (by simp)
        have HAS := hide (aside_at HAW.out g12)
        have HTV := hide hTV
        clear hTV hne g12
        go_wp2_with fail
        refine HAS.out.mono ?_
        rintro e w2 ⟨rfl, hb2⟩
        have HG2 : Hid (w.grownBy w2 (some N2)) := grow_trans (grow_trans HG.out (grow_alloc _ _) (fun j e => by cases e)) (grow_below hb2) (fun j e => by cases e)
        have HA2 : Hid (ErrAt w2 N2 (.iface T V) a) := HAW.out.weak (grow_below hb2)
        clear hb2 HAS
        simp only []
        go_wp2
        refine ⟨.inl rfl, rfl, .inr ⟨q, a, w2.heap.size, hlt, HN.out, by rw [HTV.out]; exact HA2.out.weak (grow_alloc _ _), rfl, by rw [World.cell?_alloc_at _ _ _ _ (by simp)]; rfl, by rw [World.cell?_alloc_at _ _ _ _ (by simp)]; rfl⟩, kept_of (grow_trans HG2.out (grow_alloc _ _) fun j e => by cases e)⟩
    · have hki : ¬ (q : Int) < n := by omega
      obtain rfl : q = n := by omega
      go_wp2
      exact ⟨.inl rfl, rfl, .inl ⟨u10, rfl, HN.out, ints_at HO.out, rowed_at HO.out⟩, kept_of HG.out⟩
end Px
end Go.Proofs.YtbkjjknlphlhlaaDoor
namespace Go.Proofs.YtbkjjknlphlhlaaDoor
namespace Sin
open Sim
set_option maxRecDepth 100000
section
variable {P : Program} {S S' : FuncId → Bool} {st : Bool}
theorem opndB_mono (hS : ∀ f, S f = true → S' f = true) {x : Operand} (h : opndB P S x = true) : opndB P S' x = true := by
  cases x with
  | func f => exact hS f h
  | _ => exact h
theorem opnds_mono (hS : ∀ f, S f = true → S' f = true) {l : Array Operand} (h : l.all (opndB P S) = true) : l.all (opndB P S') = true :=
  Array.all_eq_true.2 fun i hi => opndB_mono hS (Array.all_eq_true.1 h i hi)
theorem opB_mono (hS : ∀ f, S f = true → S' f = true) {o : Oper} (h : opB P S false o = true) : opB P S' st o = true := by
  unfold opB at h ⊢
  rw [Bool.and_eq_true] at h ⊢
  refine ⟨opnds_mono hS h.1, ?_⟩
  obtain ⟨_, h⟩ := h
  obtain ⟨dst, op, type, pos, after, guard⟩ := o
  dsimp only at h ⊢
  cases op with
  | makeFunc f a b =>
    cases f with
    | func f =>
      dsimp only at h ⊢
      rw [Bool.and_eq_true] at h ⊢
      exact ⟨hS f h.1, h.2⟩
    | _ => exact h
  | call c =>
    obtain ⟨callee, args, ts⟩ := c
    cases callee with
    | builtin b =>
      cases b with
      | append => simp [callB, appendOk] at h
      | _ => exact h
    | _ => exact h
  | _ => exact h
theorem opY_mono (hS : ∀ f, S f = true → S' f = true) {o : Oper} (h : opY P S false o = true) : opY P S' st o = true := by
  unfold opY opX at h ⊢
  simp only [Bool.or_eq_true, Bool.false_and, Bool.false_eq_true, or_false] at h ⊢
  exact h.imp (fun h => .inl (opB_mono hS h)) id
theorem codeB_mono (hS : ∀ f, S f = true → S' f = true) : ∀ {c : Code}, codeB P S false c = true → codeB P S' st c = true
  | .skip, _ | .label _, _ | .exit _, _ | .ret, _ | .refuse _, _ => rfl
  | .seq a b, h => by
    have h : (codeB P S false a && codeB P S false b) = true := h
    show (codeB P S' st a && codeB P S' st b) = true
    rw [Bool.and_eq_true] at h ⊢
    exact ⟨codeB_mono hS h.1, codeB_mono hS h.2⟩
  | .cond c a b, h => by
    have h : (opndB P S c && (codeB P S false a && codeB P S false b)) = true := h
    show (opndB P S' c && (codeB P S' st a && codeB P S' st b)) = true
    rw [Bool.and_eq_true, Bool.and_eq_true] at h ⊢
    exact ⟨opndB_mono hS h.1, codeB_mono hS h.2.1, codeB_mono hS h.2.2⟩
  | .block _ c, h => codeB_mono (c := c) hS h
  | .loop c, h => codeB_mono (c := c) hS h
  | .scope c, h => codeB_mono (c := c) hS h
  | .region _ ops _, h => Array.all_eq_true.2 fun i hi => opY_mono hS (Array.all_eq_true.1 (show ops.all (opY P S false) = true from h) i hi)
  | .rangeFunc .., h => by cases h
  | .goto _, h => by cases h
theorem fnB_mono (hS : ∀ f, S f = true → S' f = true) {f : FuncId} (h : fnB P S false f = true) : fnB P S' st f = true := by
  unfold fnB at h ⊢
  split at h
  · next fn e =>
    rw [Bool.and_eq_true] at h ⊢
    refine ⟨h.1, ?_⟩
    obtain ⟨_, h⟩ := h
    split at h
    · exact codeB_mono hS h
    · cases h
  · cases h
end
end Sin
end Go.Proofs.YtbkjjknlphlhlaaDoor
