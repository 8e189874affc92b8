/- A worker, whatever its slots hold: at its receive; with a number; to its send; where the channel is closed. -/
import Derived.Laws.Runes
import Derived.Laws.Bits64
import Derived.Test.YtbkjjknlphlhlaaDoorZ27
namespace Go.Proofs.YtbkjjknlphlhlaaDoor
namespace Ev
open Go.Conc Go.ConcN
open Go.ConcR (KK WgAt stA smA rd wr mk)
set_option maxRecDepth 100000
theorem array27 (T : Array Value) (h : T.size = 27) : ∃ v0 v1 v2 v3 v4 v5 v6 v7 v8 v9 v10 v11 v12 v13 v14 v15 v16 v17 v18 v19 v20 v21 v22 v23 v24 v25 v26, T = #[v0, v1, v2, v3, v4, v5, v6, v7, v8, v9, v10, v11, v12, v13, v14, v15, v16, v17, v18, v19, v20, v21, v22, v23, v24, v25, v26] := by
  obtain ⟨l⟩ := T
  simp only [List.size_toArray] at h
  rcases l with _ | ⟨v0, l⟩
  · simp at h
  rcases l with _ | ⟨v1, l⟩
  · simp at h
  rcases l with _ | ⟨v2, l⟩
  · simp at h
  rcases l with _ | ⟨v3, l⟩
  · simp at h
  rcases l with _ | ⟨v4, l⟩
  · simp at h
  rcases l with _ | ⟨v5, l⟩
  · simp at h
  rcases l with _ | ⟨v6, l⟩
  · simp at h
  rcases l with _ | ⟨v7, l⟩
  · simp at h
  rcases l with _ | ⟨v8, l⟩
  · simp at h
  rcases l with _ | ⟨v9, l⟩
  · simp at h
  rcases l with _ | ⟨v10, l⟩
  · simp at h
  rcases l with _ | ⟨v11, l⟩
  · simp at h
  rcases l with _ | ⟨v12, l⟩
  · simp at h
  rcases l with _ | ⟨v13, l⟩
  · simp at h
  rcases l with _ | ⟨v14, l⟩
  · simp at h
  rcases l with _ | ⟨v15, l⟩
  · simp at h
  rcases l with _ | ⟨v16, l⟩
  · simp at h
  rcases l with _ | ⟨v17, l⟩
  · simp at h
  rcases l with _ | ⟨v18, l⟩
  · simp at h
  rcases l with _ | ⟨v19, l⟩
  · simp at h
  rcases l with _ | ⟨v20, l⟩
  · simp at h
  rcases l with _ | ⟨v21, l⟩
  · simp at h
  rcases l with _ | ⟨v22, l⟩
  · simp at h
  rcases l with _ | ⟨v23, l⟩
  · simp at h
  rcases l with _ | ⟨v24, l⟩
  · simp at h
  rcases l with _ | ⟨v25, l⟩
  · simp at h
  rcases l with _ | ⟨v26, l⟩
  · simp at h
  rcases l with _ | ⟨v, l⟩
  · exact ⟨v0, v1, v2, v3, v4, v5, v6, v7, v8, v9, v10, v11, v12, v13, v14, v15, v16, v17, v18, v19, v20, v21, v22, v23, v24, v25, v26, rfl⟩
  · simp at h

section
variable (Wg : Nat) (nb db tb ob : Addr) (cn : Nat)
/-- The slots of a worker at its receive. -/
structure WT (T : Array Value) : Prop where
  size : T.size = 27
  a0 : T[0]? = some (.pointer (some ⟨Wg, 0, none⟩))
  a1 : T[1]? = some (.pointer (some nb))
  a2 : T[2]? = some (.pointer (some ob))
  a3 : T[3]? = some (.pointer (some tb))
  a4 : T[4]? = some (.pointer (some db))
  a8 : T[8]? = some (.chan (some cn))
/-- At its receive. -/
noncomputable def BR (T : Array Value) : Goroutine := { B2 ⟨Wg, 0, none⟩ nb ob tb db cn with frame := { (B2 ⟨Wg, 0, none⟩ nb ob tb db cn).frame with tmps := T } }
theorem b_born : B2 ⟨Wg, 0, none⟩ nb ob tb db cn = BR Wg nb db tb ob cn (B2 ⟨Wg, 0, none⟩ nb ob tb db cn).frame.tmps ∧ WT Wg nb db tb ob cn (B2 ⟨Wg, 0, none⟩ nb ob tb db cn).frame.tmps :=
  ⟨by kernel_rfl, by kernel_rfl, by kernel_rfl, by kernel_rfl, by kernel_rfl, by kernel_rfl, by kernel_rfl, by kernel_rfl⟩
section
variable (T : Array Value) (hT : WT Wg nb db tb ob cn T)
 include hT
theorem r_recv : (BR Wg nb db tb ob cn T).status = .running ∧ ∀ w : World, stepG Tryd.prog false (BR Wg nb db tb ob cn T) w = .comm (BR Wg nb db tb ob cn T) #[rcase cn (.int .i64 0)] true (.recv true) w #[] := by
  obtain ⟨v0, v1, v2, v3, v4, v5, v6, v7, v8, v9, v10, v11, v12, v13, v14, v15, v16, v17, v18, v19, v20, v21, v22, v23, v24, v25, v26, rfl⟩ := array27 T hT.size
  have h0 := hT.a0; have h1 := hT.a1; have h2 := hT.a2; have h3 := hT.a3; have h4 := hT.a4; have h8 := hT.a8
  simp only [List.getElem?_toArray, List.getElem?_cons_succ, List.getElem?_cons_zero, Option.some.injEq] at h0 h1 h2 h3 h4 h8
  subst h0; subst h1; subst h2; subst h3; subst h4; subst h8
  exact ⟨by kernel_rfl, fun w => by kernel_rfl⟩
end
variable (T : Array Value)
/-- Behind its receive, with a number. -/
noncomputable def RV (i : Int) : Goroutine := (BR Wg nb db tb ob cn T).finishComm Tryd.prog #[rcase cn (.int .i64 0)] (.recv true) 0 (.int .i64 i) true
/-- .. at the region that draws. -/
noncomputable def RA (i : Int) : Goroutine := adv Tryd.prog false 12 (RV Wg nb db tb ob cn T i)
/-- Behind it, the slots being U. -/
noncomputable def RB (U : Array Value) : Goroutine := { RA Wg nb db tb ob cn U 0 with frame := { (RA Wg nb db tb ob cn U 0).frame with tmps := U, todo := (RA Wg nb db tb ob cn U 0).frame.todo.tail } }
noncomputable def RC (U : Array Value) : Goroutine := adv Tryd.prog false 1 (RB Wg nb db tb ob cn U)
/-- At its send. -/
noncomputable def RD (cd : Nat) (U : Array Value) : Goroutine := adv Tryd.prog false 4 (fin (RC Wg nb db tb ob cn U) (.chan (some cd)))
/-- Behind it. -/
noncomputable def RE (cd : Nat) (U : Array Value) (cs : Array CommCase) : Goroutine := (RD Wg nb db tb ob cn cd U).finishComm Tryd.prog cs .send 0 undef false
/-- Behind its receive, the channel being closed. -/
noncomputable def RZ : Goroutine := (BR Wg nb db tb ob cn T).finishComm Tryd.prog #[rcase cn (.int .i64 0)] (.recv true) 0 (.int .i64 0) false
noncomputable def R2 : Goroutine := fin (adv Tryd.prog false 21 (RZ Wg nb db tb ob cn T)) (.pointer (some ⟨Wg, 0, none⟩))
noncomputable def R3 : Goroutine := next Tryd.prog false (R2 Wg nb db tb ob cn T)
noncomputable def R4 : Goroutine := adv Tryd.prog false 3 (R3 Wg nb db tb ob cn T)
noncomputable def R5 : Goroutine := next Tryd.prog false (R4 Wg nb db tb ob cn T)
noncomputable def R6 : Goroutine := adv Tryd.prog false 34 (R5 Wg nb db tb ob cn T)
section
variable (hT : WT Wg nb db tb ob cn T)
 include hT
theorem r_to (i : Int) : Still Tryd.prog false 12 (RV Wg nb db tb ob cn T i) (RA Wg nb db tb ob cn T i) := by
  obtain ⟨v0, v1, v2, v3, v4, v5, v6, v7, v8, v9, v10, v11, v12, v13, v14, v15, v16, v17, v18, v19, v20, v21, v22, v23, v24, v25, v26, rfl⟩ := array27 T hT.size
  have h0 := hT.a0; have h1 := hT.a1; have h2 := hT.a2; have h3 := hT.a3; have h4 := hT.a4; have h8 := hT.a8
  simp only [List.getElem?_toArray, List.getElem?_cons_succ, List.getElem?_cons_zero, Option.some.injEq] at h0 h1 h2 h3 h4 h8
  subst h0; subst h1; subst h2; subst h3; subst h4; subst h8
  exact still_of (fun w => by kernel_rfl) (by kernel_rfl) (by kernel_rfl)
theorem r_closed : Idle Tryd.prog false (Live Wg) (fun _ => False) 22 (RZ Wg nb db tb ob cn T) (R2 Wg nb db tb ob cn T) ∧ (R2 Wg nb db tb ob cn T).status = .running ∧ (∀ w, stepG Tryd.prog false (R2 Wg nb db tb ob cn T) w = .go (R3 Wg nb db tb ob cn T) w #[mk (.releaseMerge (stA Wg))]) := by
  obtain ⟨v0, v1, v2, v3, v4, v5, v6, v7, v8, v9, v10, v11, v12, v13, v14, v15, v16, v17, v18, v19, v20, v21, v22, v23, v24, v25, v26, rfl⟩ := array27 T hT.size
  have h0 := hT.a0; have h1 := hT.a1; have h2 := hT.a2; have h3 := hT.a3; have h4 := hT.a4; have h8 := hT.a8
  simp only [List.getElem?_toArray, List.getElem?_cons_succ, List.getElem?_cons_zero, Option.some.injEq] at h0 h1 h2 h3 h4 h8
  subst h0; subst h1; subst h2; subst h3; subst h4; subst h8
  refine ⟨Idle.trans (n := 21) (m := 1) (still_of (n := 21) (fun w => by kernel_rfl) (by kernel_rfl) (by kernel_rfl)).idle (Idle.one (es := #[]) (by kernel_rfl) (fun w hw => ?_) (by simp)), by kernel_rfl, fun w => by kernel_rfl⟩
  obtain ⟨v, hv⟩ := live0 hw
  exact conv_step (src := 104) (dst := 90) (t := 83) (by kernel_rfl) (by kernel_rfl) (by kernel_rfl) (by kernel_rfl) hv
theorem r_dis : Still Tryd.prog false 3 (R3 Wg nb db tb ob cn T) (R4 Wg nb db tb ob cn T) ∧ (R4 Wg nb db tb ob cn T).status = .running ∧ (∀ w, stepG Tryd.prog false (R4 Wg nb db tb ob cn T) w = .go (R5 Wg nb db tb ob cn T) w #[mk .disable]) := by
  obtain ⟨v0, v1, v2, v3, v4, v5, v6, v7, v8, v9, v10, v11, v12, v13, v14, v15, v16, v17, v18, v19, v20, v21, v22, v23, v24, v25, v26, rfl⟩ := array27 T hT.size
  have h0 := hT.a0; have h1 := hT.a1; have h2 := hT.a2; have h3 := hT.a3; have h4 := hT.a4; have h8 := hT.a8
  simp only [List.getElem?_toArray, List.getElem?_cons_succ, List.getElem?_cons_zero, Option.some.injEq] at h0 h1 h2 h3 h4 h8
  subst h0; subst h1; subst h2; subst h3; subst h4; subst h8
  exact ⟨still_of (fun w => by kernel_rfl) (by kernel_rfl) (by kernel_rfl), by kernel_rfl, fun w => by kernel_rfl⟩
theorem r_sub : Still Tryd.prog false 34 (R5 Wg nb db tb ob cn T) (R6 Wg nb db tb ob cn T) ∧ (R6 Wg nb db tb ob cn T).status = .running ∧ ∃ d, sits (R6 Wg nb db tb ob cn T) = some (70, #[.pointer (some ⟨Wg, 0, none⟩), .int .u64 d]) ∧ d = 18446744069414584320 := by
  obtain ⟨v0, v1, v2, v3, v4, v5, v6, v7, v8, v9, v10, v11, v12, v13, v14, v15, v16, v17, v18, v19, v20, v21, v22, v23, v24, v25, v26, rfl⟩ := array27 T hT.size
  have h0 := hT.a0; have h1 := hT.a1; have h2 := hT.a2; have h3 := hT.a3; have h4 := hT.a4; have h8 := hT.a8
  simp only [List.getElem?_toArray, List.getElem?_cons_succ, List.getElem?_cons_zero, Option.some.injEq] at h0 h1 h2 h3 h4 h8
  subst h0; subst h1; subst h2; subst h3; subst h4; subst h8
  exact ⟨still_of (fun w => by kernel_rfl) (by kernel_rfl) (by kernel_rfl), by kernel_rfl, 18446744069414584320, by kernel_rfl, rfl⟩
/-- From the region that draws to the send, and back to the receive. -/
theorem r_on_nil (cd : Nat) {i p : Int}  (h5 : T[5]? = some (.int .i64 i)) (h6 : T[6]? = some (.int .i64 p)) (h7 : T[7]? = some Value.nilIface) : Still Tryd.prog false 1 (RB Wg nb db tb ob cn T) (RC Wg nb db tb ob cn T) ∧ (RC Wg nb db tb ob cn T).status = .running ∧ loadOf (RC Wg nb db tb ob cn T) = some (73, .pointer (some db)) ∧ (RC Wg nb db tb ob cn T).frame.fn = 33 ∧
    Still Tryd.prog false 4 (fin (RC Wg nb db tb ob cn T) (.chan (some cd))) (RD Wg nb db tb ob cn cd T) ∧ (RD Wg nb db tb ob cn cd T).status = .running ∧ ∃ z, (∀ w, stepG Tryd.prog false (RD Wg nb db tb ob cn cd T) w = .comm (RD Wg nb db tb ob cn cd T) #[scase cd (.agg #[.int .i64 i, .int .i64 p, Value.nilIface]) z] true .send w #[]) ∧
    ∀ cs, WT Wg nb db tb ob cn (RD Wg nb db tb ob cn cd T).frame.tmps ∧ Still Tryd.prog false 5 (RE Wg nb db tb ob cn cd T cs) (BR Wg nb db tb ob cn (RD Wg nb db tb ob cn cd T).frame.tmps) := by
  obtain ⟨v0, v1, v2, v3, v4, v5, v6, v7, v8, v9, v10, v11, v12, v13, v14, v15, v16, v17, v18, v19, v20, v21, v22, v23, v24, v25, v26, rfl⟩ := array27 T hT.size
  have h0 := hT.a0; have h1 := hT.a1; have h2 := hT.a2; have h3 := hT.a3; have h4 := hT.a4; have h8 := hT.a8
  simp only [List.getElem?_toArray, List.getElem?_cons_succ, List.getElem?_cons_zero, Option.some.injEq] at h0 h1 h2 h3 h4 h8
  subst h0; subst h1; subst h2; subst h3; subst h4; subst h8
  simp only [List.getElem?_toArray, List.getElem?_cons_succ, List.getElem?_cons_zero, Option.some.injEq] at h5 h6 h7
  subst h5; subst h6; subst h7
  refine ⟨still_of (fun w => by kernel_rfl) (by kernel_rfl) (by kernel_rfl), by kernel_rfl, by kernel_rfl, by kernel_rfl, still_of (fun w => by kernel_rfl) (by kernel_rfl) (by kernel_rfl), by kernel_rfl, .tuple #[], fun w => by kernel_rfl, fun cs => ?_⟩
  refine ⟨⟨by kernel_rfl, by kernel_rfl, by kernel_rfl, by kernel_rfl, by kernel_rfl, by kernel_rfl, by kernel_rfl⟩, ?_⟩
  have e : ∀ g g', Still Tryd.prog false 5 g (adv Tryd.prog false 5 g) → adv Tryd.prog false 5 g = g' → Still Tryd.prog false 5 g g' := fun g g' h e => e ▸ h
  exact e _ _ (still_of (fun w => by kernel_rfl) (by kernel_rfl) (by kernel_rfl)) (by kernel_rfl)
theorem r_on_err (cd : Nat) {i p : Int} {ti : TypeId} {vi : Value} (h5 : T[5]? = some (.int .i64 i)) (h6 : T[6]? = some (.int .i64 p)) (h7 : T[7]? = some (Value.iface ti vi)) : Still Tryd.prog false 1 (RB Wg nb db tb ob cn T) (RC Wg nb db tb ob cn T) ∧ (RC Wg nb db tb ob cn T).status = .running ∧ loadOf (RC Wg nb db tb ob cn T) = some (73, .pointer (some db)) ∧ (RC Wg nb db tb ob cn T).frame.fn = 33 ∧
    Still Tryd.prog false 4 (fin (RC Wg nb db tb ob cn T) (.chan (some cd))) (RD Wg nb db tb ob cn cd T) ∧ (RD Wg nb db tb ob cn cd T).status = .running ∧ ∃ z, (∀ w, stepG Tryd.prog false (RD Wg nb db tb ob cn cd T) w = .comm (RD Wg nb db tb ob cn cd T) #[scase cd (.agg #[.int .i64 i, .int .i64 p, (Value.iface ti vi)]) z] true .send w #[]) ∧
    ∀ cs, WT Wg nb db tb ob cn (RD Wg nb db tb ob cn cd T).frame.tmps ∧ Still Tryd.prog false 5 (RE Wg nb db tb ob cn cd T cs) (BR Wg nb db tb ob cn (RD Wg nb db tb ob cn cd T).frame.tmps) := by
  obtain ⟨v0, v1, v2, v3, v4, v5, v6, v7, v8, v9, v10, v11, v12, v13, v14, v15, v16, v17, v18, v19, v20, v21, v22, v23, v24, v25, v26, rfl⟩ := array27 T hT.size
  have h0 := hT.a0; have h1 := hT.a1; have h2 := hT.a2; have h3 := hT.a3; have h4 := hT.a4; have h8 := hT.a8
  simp only [List.getElem?_toArray, List.getElem?_cons_succ, List.getElem?_cons_zero, Option.some.injEq] at h0 h1 h2 h3 h4 h8
  subst h0; subst h1; subst h2; subst h3; subst h4; subst h8
  simp only [List.getElem?_toArray, List.getElem?_cons_succ, List.getElem?_cons_zero, Option.some.injEq] at h5 h6 h7
  subst h5; subst h6; subst h7
  refine ⟨still_of (fun w => by kernel_rfl) (by kernel_rfl) (by kernel_rfl), by kernel_rfl, by kernel_rfl, by kernel_rfl, still_of (fun w => by kernel_rfl) (by kernel_rfl) (by kernel_rfl), by kernel_rfl, .tuple #[], fun w => by kernel_rfl, fun cs => ?_⟩
  refine ⟨⟨by kernel_rfl, by kernel_rfl, by kernel_rfl, by kernel_rfl, by kernel_rfl, by kernel_rfl, by kernel_rfl⟩, ?_⟩
  have e : ∀ g g', Still Tryd.prog false 5 g (adv Tryd.prog false 5 g) → adv Tryd.prog false 5 g = g' → Still Tryd.prog false 5 g g' := fun g g' h e => e ▸ h
  exact e _ _ (still_of (fun w => by kernel_rfl) (by kernel_rfl) (by kernel_rfl)) (by kernel_rfl)
end
end
end Ev
end Go.Proofs.YtbkjjknlphlhlaaDoor
namespace Go.Proofs.YtbkjjknlphlhlaaDoor
namespace Ev
open Go.Conc Go.ConcN
open Go.ConcR (KK WgAt stA smA rd wr mk)
set_option maxRecDepth 100000
theorem still_to {P : Program} {main : Bool} {n : Nat} {g g' : Goroutine} (h : Still P main n g (adv P main n g)) (e : adv P main n g = g') : Still P main n g g' := e ▸ h
def dropI (g : Goroutine) : Goroutine := { g with frame := { g.frame with todo := g.frame.todo.tail } }
def putT (g : Goroutine) (T : Array Value) : Goroutine := { g with frame := { g.frame with tmps := T } }
section
variable (c : Frame) (cs : List Frame)
noncomputable def Z0 : Goroutine := G (Frame.enter Tryd.prog 22 #[undef, undef, undef] .normal) (c :: cs)
noncomputable def Z1 : Goroutine := adv Tryd.prog true 1 (Z0 c cs)
noncomputable def Z3 : Goroutine := adv Tryd.prog true 1 (dropI (Z1 c cs))
noncomputable def Z5 : Goroutine := adv Tryd.prog true 1 (dropI (Z3 c cs))
/-- Behind the group's alloc, the slots being V. -/
noncomputable def Z6 (V : Array Value) : Goroutine := putT (dropI (Z5 c cs)) V
noncomputable def BS (V : Array Value) : Goroutine := putT (adv Tryd.prog true 8 (Z6 c cs (Array.replicate 27 undef))) V
noncomputable def LH (V : Array Value) : Goroutine := putT (dropI (BS c cs V)) V
noncomputable def CS (V : Array Value) : Goroutine := putT (adv Tryd.prog true 5 (BS c cs ((Array.replicate 27 undef).setIfInBounds 13 (.int .i64 0) |>.setIfInBounds 14 (.int .i64 0)))) V
variable (Wg : Nat) (b3 b5 b7 b8 : Addr) (k : Int)
structure VT (V : Array Value) : Prop where
  size : V.size = 27
  a1 : V[1]? = some (.int .i64 k)
  a3 : V[3]? = some (.pointer (some b3))
  a5 : V[5]? = some (.pointer (some b5))
  a7 : V[7]? = some (.pointer (some b7))
  a8 : V[8]? = some (.pointer (some b8))
  a9 : V[9]? = some (.pointer (some ⟨Wg, 0, none⟩))
variable (V : Array Value)
/-- Its frame while Add goes. -/
noncomputable def fA : Frame := match (adv Tryd.prog true 7 (CS c cs (V.setIfInBounds 15 (.bool true)))).callers with
  | f :: _ => f
  | [] => default
noncomputable def GO : Goroutine := adv Tryd.prog true 3 (G ((fA c cs V).finish (.tuple #[])) (c :: cs))
noncomputable def GN : Goroutine := next Tryd.prog true (GO c cs V)
noncomputable def GL : Goroutine := adv Tryd.prog true 6 (GN c cs V)
noncomputable def NL : Goroutine := adv Tryd.prog true 4 (CS c cs V)
noncomputable def NM (tp : Option Addr) (n : Nat) (cp : Nat) : Goroutine := adv Tryd.prog true 1 (fin (NL c cs V) (.slice tp n cp))
noncomputable def NN (tp : Option Addr) (n cp cn : Nat) : Goroutine := fin (NM c cs V tp n cp) (.chan (some cn))
/-- At handOut's making of the list. -/
noncomputable def NH (tp : Option Addr) (n cp cn cd : Nat) : Goroutine := adv Tryd.prog true 8 (fin (NN c cs V tp n cp cn) (.chan (some cd)))
variable (hV : VT Wg b3 b5 b7 b8 k V)
 include hV
theorem n_begin : ∃ V2, VT Wg b3 b5 b7 b8 k V2 ∧ V2[13]? = some (.int .i64 k) ∧ V2[14]? = some (.int .i64 0) ∧ Still Tryd.prog true 8 (Z6 c cs V) (BS c cs V2) := by
  refine ⟨(adv Tryd.prog true 8 (Z6 c cs V)).frame.tmps, ?_⟩
  obtain ⟨v0, v1, v2, v3, v4, v5, v6, v7, v8, v9, v10, v11, v12, v13, v14, v15, v16, v17, v18, v19, v20, v21, v22, v23, v24, v25, v26, rfl⟩ := array27 V hV.size
  have h1 := hV.a1; have h3 := hV.a3; have h5 := hV.a5; have h7 := hV.a7; have h8 := hV.a8; have h9 := hV.a9
  simp only [List.getElem?_toArray, List.getElem?_cons_succ, List.getElem?_cons_zero, Option.some.injEq] at h1 h3 h5 h7 h8 h9
  subst h1; subst h3; subst h5; subst h7; subst h8; subst h9
  exact ⟨⟨by kernel_rfl, by kernel_rfl, by kernel_rfl, by kernel_rfl, by kernel_rfl, by kernel_rfl, by kernel_rfl⟩, by kernel_rfl, by kernel_rfl, (still_to (n := 8) (still_of (fun w => by kernel_rfl) (by kernel_rfl) (by kernel_rfl)) (by kernel_rfl))⟩
theorem n_loop : Still Tryd.prog true 1 (LH c cs V) (BS c cs V) := by
  obtain ⟨v0, v1, v2, v3, v4, v5, v6, v7, v8, v9, v10, v11, v12, v13, v14, v15, v16, v17, v18, v19, v20, v21, v22, v23, v24, v25, v26, rfl⟩ := array27 V hV.size
  have h1 := hV.a1; have h3 := hV.a3; have h5 := hV.a5; have h7 := hV.a7; have h8 := hV.a8; have h9 := hV.a9
  simp only [List.getElem?_toArray, List.getElem?_cons_succ, List.getElem?_cons_zero, Option.some.injEq] at h1 h3 h5 h7 h8 h9
  subst h1; subst h3; subst h5; subst h7; subst h8; subst h9
  exact (still_to (n := 1) (still_of (fun w => by kernel_rfl) (by kernel_rfl) (by kernel_rfl)) (by kernel_rfl))
theorem n_test {i : Int} (h13 : V[13]? = some (.int .i64 k)) (h14 : V[14]? = some (.int .i64 i)) : Still Tryd.prog true 5 (BS c cs V) (CS c cs (V.setIfInBounds 15 (.bool (decide (i < k))))) := by
  obtain ⟨v0, v1, v2, v3, v4, v5, v6, v7, v8, v9, v10, v11, v12, v13, v14, v15, v16, v17, v18, v19, v20, v21, v22, v23, v24, v25, v26, rfl⟩ := array27 V hV.size
  have h1 := hV.a1; have h3 := hV.a3; have h5 := hV.a5; have h7 := hV.a7; have h8 := hV.a8; have h9 := hV.a9
  simp only [List.getElem?_toArray, List.getElem?_cons_succ, List.getElem?_cons_zero, Option.some.injEq] at h1 h3 h5 h7 h8 h9
  subst h1; subst h3; subst h5; subst h7; subst h8; subst h9
  simp only [List.getElem?_toArray, List.getElem?_cons_succ, List.getElem?_cons_zero, Option.some.injEq] at h13
  subst h13
  simp only [List.getElem?_toArray, List.getElem?_cons_succ, List.getElem?_cons_zero, Option.some.injEq] at h14
  subst h14
  exact (still_to (n := 5) (still_of (fun w => by kernel_rfl) (by kernel_rfl) (by kernel_rfl)) (by kernel_rfl))
theorem n_call (h15 : V[15]? = some (.bool true)) : Still Tryd.prog true 7 (CS c cs V) (A0 (fA c cs V) (c :: cs) Wg) := by
  obtain ⟨v0, v1, v2, v3, v4, v5, v6, v7, v8, v9, v10, v11, v12, v13, v14, v15, v16, v17, v18, v19, v20, v21, v22, v23, v24, v25, v26, rfl⟩ := array27 V hV.size
  have h1 := hV.a1; have h3 := hV.a3; have h5 := hV.a5; have h7 := hV.a7; have h8 := hV.a8; have h9 := hV.a9
  simp only [List.getElem?_toArray, List.getElem?_cons_succ, List.getElem?_cons_zero, Option.some.injEq] at h1 h3 h5 h7 h8 h9
  subst h1; subst h3; subst h5; subst h7; subst h8; subst h9
  simp only [List.getElem?_toArray, List.getElem?_cons_succ, List.getElem?_cons_zero, Option.some.injEq] at h15
  subst h15
  exact (still_to (n := 7) (still_of (fun w => by kernel_rfl) (by kernel_rfl) (by kernel_rfl)) (by kernel_rfl))
theorem n_back {i : Int} (h13 : V[13]? = some (.int .i64 k)) (h14 : V[14]? = some (.int .i64 i)) (h15 : V[15]? = some (.bool true)) : Still Tryd.prog true 3 (G ((fA c cs V).finish (.tuple #[])) (c :: cs)) (GO c cs V) ∧ (GO c cs V).status = .running ∧ (∀ w, stepG Tryd.prog true (GO c cs V) w = .spawn (GN c cs V) (B0 ⟨Wg, 0, none⟩ b7 b5 b3 b8) w #[]) := by
  obtain ⟨v0, v1, v2, v3, v4, v5, v6, v7, v8, v9, v10, v11, v12, v13, v14, v15, v16, v17, v18, v19, v20, v21, v22, v23, v24, v25, v26, rfl⟩ := array27 V hV.size
  have h1 := hV.a1; have h3 := hV.a3; have h5 := hV.a5; have h7 := hV.a7; have h8 := hV.a8; have h9 := hV.a9
  simp only [List.getElem?_toArray, List.getElem?_cons_succ, List.getElem?_cons_zero, Option.some.injEq] at h1 h3 h5 h7 h8 h9
  subst h1; subst h3; subst h5; subst h7; subst h8; subst h9
  simp only [List.getElem?_toArray, List.getElem?_cons_succ, List.getElem?_cons_zero, Option.some.injEq] at h13
  subst h13
  simp only [List.getElem?_toArray, List.getElem?_cons_succ, List.getElem?_cons_zero, Option.some.injEq] at h14
  subst h14
  simp only [List.getElem?_toArray, List.getElem?_cons_succ, List.getElem?_cons_zero, Option.some.injEq] at h15
  subst h15
  exact ⟨(still_to (n := 3) (still_of (fun w => by kernel_rfl) (by kernel_rfl) (by kernel_rfl)) (by kernel_rfl)), by kernel_rfl, fun w => by kernel_rfl⟩
theorem n_next {i : Int} (h13 : V[13]? = some (.int .i64 k)) (h14 : V[14]? = some (.int .i64 i)) (h15 : V[15]? = some (.bool true)) : VT Wg b3 b5 b7 b8 k (GL c cs V).frame.tmps ∧ (GL c cs V).frame.tmps[13]? = some (.int .i64 k) ∧ (GL c cs V).frame.tmps[14]? = some (.int .i64 (IntKind.i64.wrap (i + 1))) ∧ Still Tryd.prog true 6 (GN c cs V) (LH c cs (GL c cs V).frame.tmps) := by
  obtain ⟨v0, v1, v2, v3, v4, v5, v6, v7, v8, v9, v10, v11, v12, v13, v14, v15, v16, v17, v18, v19, v20, v21, v22, v23, v24, v25, v26, rfl⟩ := array27 V hV.size
  have h1 := hV.a1; have h3 := hV.a3; have h5 := hV.a5; have h7 := hV.a7; have h8 := hV.a8; have h9 := hV.a9
  simp only [List.getElem?_toArray, List.getElem?_cons_succ, List.getElem?_cons_zero, Option.some.injEq] at h1 h3 h5 h7 h8 h9
  subst h1; subst h3; subst h5; subst h7; subst h8; subst h9
  simp only [List.getElem?_toArray, List.getElem?_cons_succ, List.getElem?_cons_zero, Option.some.injEq] at h13
  subst h13
  simp only [List.getElem?_toArray, List.getElem?_cons_succ, List.getElem?_cons_zero, Option.some.injEq] at h14
  subst h14
  simp only [List.getElem?_toArray, List.getElem?_cons_succ, List.getElem?_cons_zero, Option.some.injEq] at h15
  subst h15
  exact ⟨⟨by kernel_rfl, by kernel_rfl, by kernel_rfl, by kernel_rfl, by kernel_rfl, by kernel_rfl, by kernel_rfl⟩, by kernel_rfl, by kernel_rfl, (still_to (n := 6) (still_of (fun w => by kernel_rfl) (by kernel_rfl) (by kernel_rfl)) (by kernel_rfl))⟩
theorem n_out (h15 : V[15]? = some (.bool false)) (tp : Option Addr) (n cp cn cd : Nat) : Still Tryd.prog true 4 (CS c cs V) (NL c cs V) ∧ loadOf (NL c cs V) = some (22, .pointer (some b3)) ∧ (NL c cs V).frame.fn = 22 ∧ (NL c cs V).status = .running ∧
    Still Tryd.prog true 1 (fin (NL c cs V) (.slice tp n cp)) (NM c cs V tp n cp) ∧ loadOf (NM c cs V tp n cp) = some (72, .pointer (some b7)) ∧ (NM c cs V tp n cp).frame.fn = 22 ∧ (NM c cs V tp n cp).status = .running ∧
    loadOf (NN c cs V tp n cp cn) = some (73, .pointer (some b8)) ∧ (NN c cs V tp n cp cn).frame.fn = 22 ∧ (NN c cs V tp n cp cn).status = .running ∧ Still Tryd.prog true 8 (fin (NN c cs V tp n cp cn) (.chan (some cd))) (NH c cs V tp n cp cn cd) := by
  obtain ⟨v0, v1, v2, v3, v4, v5, v6, v7, v8, v9, v10, v11, v12, v13, v14, v15, v16, v17, v18, v19, v20, v21, v22, v23, v24, v25, v26, rfl⟩ := array27 V hV.size
  have h1 := hV.a1; have h3 := hV.a3; have h5 := hV.a5; have h7 := hV.a7; have h8 := hV.a8; have h9 := hV.a9
  simp only [List.getElem?_toArray, List.getElem?_cons_succ, List.getElem?_cons_zero, Option.some.injEq] at h1 h3 h5 h7 h8 h9
  subst h1; subst h3; subst h5; subst h7; subst h8; subst h9
  simp only [List.getElem?_toArray, List.getElem?_cons_succ, List.getElem?_cons_zero, Option.some.injEq] at h15
  subst h15
  exact ⟨(still_to (n := 4) (still_of (fun w => by kernel_rfl) (by kernel_rfl) (by kernel_rfl)) (by kernel_rfl)), by kernel_rfl, by kernel_rfl, by kernel_rfl, (still_to (n := 1) (still_of (fun w => by kernel_rfl) (by kernel_rfl) (by kernel_rfl)) (by kernel_rfl)), by kernel_rfl, by kernel_rfl, by kernel_rfl, by kernel_rfl, by kernel_rfl, by kernel_rfl, (still_to (n := 8) (still_of (fun w => by kernel_rfl) (by kernel_rfl) (by kernel_rfl)) (by kernel_rfl))⟩
end
end Ev
end Go.Proofs.YtbkjjknlphlhlaaDoor
namespace Go.Proofs.YtbkjjknlphlhlaaDoor
namespace Mc
open Go.Conc Go.ConcN Hd Sim Wy Ev
open Go.ConcR (KK WgAt stA smA mk)
set_option maxRecDepth 100000
/-- A variable of one cell that all may read holds this. -/
def Holds1 (E : Env) (b : Addr) (v : Value) : Prop := E.Base b.block ∧ E.W0.cell? b = some v
theorem cell_heap {w w' : World} {a : Addr} (h : w'.heap[a.block]? = w.heap[a.block]?) : w'.cell? a = w.cell? a := by
  unfold World.cell?; rw [h]
theorem Holds1.get {E : Env} {b : Addr} {v : Value} (h : Holds1 E b v) {w : World} (hk : Kn E w) : w.cell? b = some v := (cell_heap (hk.base _ h.1)).trans h.2
theorem xe_read {E : Env} {main : Bool} {b : Addr} {v : Value} (h : Holds1 E b v) : ∀ e ∈ #[(⟨.cell b, false, false⟩ : Event)], XE E main e := fun e he => by
  rw [Array.mem_singleton] at he
  exact .inl ⟨b, he, h.1⟩
section
variable {E : Env} {F : Fam} {main : Bool} {g : Goroutine} {w : World}
theorem still_idle {n : Nat} {g' : Goroutine} (h : Still Tryd.prog main n g g') : Idle Tryd.prog main (Kn E) (XE E main) n g g' := h.idle
/-- A load of such a variable. -/
theorem load_idle {t : TypeId} {b : Addr} {v : Value} (hb : Holds1 E b v) (hl : loadOf g = some (t, .pointer (some b))) (hr : g.status = .running) (hs : ∀ w : World, Sem.run Tryd.prog (sizeOf t) w = .ok 1 w) (ha : ∀ w : World, Sem.run Tryd.prog (isAgg t) w = .ok false w) (hq : (Tryd.prog.funcs[g.frame.fn]?).any (·.norace) = false) :
    Idle Tryd.prog main (Kn E) (XE E main) 1 g (fin g v) := Idle.one (es := #[⟨.cell b, false, false⟩]) hr (fun _ hk => load_one hl hs ha (hb.get hk) hq) (xe_read hb)
end
section
variable (E : Env) (b3 b5 b7 b8 : Addr)
/-- A worker at its receive. -/
def RecvW (g : Goroutine) : Prop := ∃ T, WT E.Wg b7 b8 b3 b5 E.cn T ∧ g = BR E.Wg b7 b8 b3 b5 E.cn T
end
section
variable {E : Env} {F : Fam} {b3 b5 b7 b8 : Addr} (hR : F.Recv = RecvW E b3 b5 b7 b8) (h7 : Holds1 E b7 (.chan (some E.cn)))
 include hR h7
theorem birth (w : World) : WayE Tryd.prog E false (SRecv F) E.Base no (B0 ⟨E.Wg, 0, none⟩ b7 b5 b3 b8) w := by
  refine Way.idle (still_idle (b_to ⟨E.Wg, 0, none⟩ b7 b5 b3 b8)) (Way.idle (load_idle h7 (b_load ⟨E.Wg, 0, none⟩ b7 b5 b3 b8) (by kernel_rfl) (fun w => by kernel_rfl) (fun w => by kernel_rfl) (by kernel_rfl))
    (Way.idle (still_idle (b_on ⟨E.Wg, 0, none⟩ b7 b5 b3 b8 E.cn)) (way_stop fun w => ?_)))
  show F.Recv _
  rw [hR]
  obtain ⟨a, b⟩ := b_born E.Wg b7 b8 b3 b5 E.cn
  exact ⟨_, b, a⟩
end
section
variable {E : Env} {F : Fam}
theorem After.idle {next : Nat} {gl : List Nat} {val : Vals} {A M : Nat → Prop} {n : Nat} {g g' : Goroutine} {w : World} (h : Idle Tryd.prog true (Kn E) (XE E true) n g g') (k : After Tryd.prog E F next gl val A M g' w) : After Tryd.prog E F next gl val A M g w := by
  unfold After at k ⊢
  split
  · rename_i e; rw [if_pos e] at k; exact Way.idle h k
  · rename_i e; rw [if_neg e] at k; exact Way.idle h k
theorem NextM.idle {r : Nat} {n : Nat} {g g' : Goroutine} {w : World} (h : Idle Tryd.prog true (Kn E) (XE E true) n g g') (k : NextM Tryd.prog E F r g' w) : NextM Tryd.prog E F r g w := by
  cases r with
  | zero => obtain ⟨val, k⟩ := k; exact ⟨val, k.idle h⟩
  | succ r => exact Way.idle h k
end
section
variable {E : Env} {F : Fam} {b3 b5 b7 b8 : Addr} (hR : F.Recv = RecvW E b3 b5 b7 b8) (h7 : Holds1 E b7 (.chan (some E.cn))) (c : Frame) (cs : List Frame) {k : Nat} (hk : k ≤ 16)
  (hOut : ∀ V w, VT E.Wg b3 b5 b7 b8 k V → V[15]? = some (.bool false) → NextM Tryd.prog E F 0 (CS c cs V) w)
 include hR h7 hk hOut
theorem next_loop : ∀ (r i : Nat) (V : Array Value) (w : World), VT E.Wg b3 b5 b7 b8 k V → V[13]? = some (.int .i64 k) → V[14]? = some (.int .i64 i) → i + r = k → NextM Tryd.prog E F r (BS c cs V) w := by
  intro r
  induction r with
  | zero =>
    intro i V w hV h13 h14 hi
    have hik : i = k := by omega
    subst hik
    refine NextM.idle (still_idle (n_test c cs E.Wg b3 b5 b7 b8 i V hV h13 h14)) (hOut _ w ?_ ?_)
    · exact ⟨by simp [hV.size], by simp [hV.a1], by simp [hV.a3], by simp [hV.a5], by simp [hV.a7], by simp [hV.a8], by simp [hV.a9]⟩
    · have := hV.size
      rw [Array.getElem?_setIfInBounds_self_of_lt (by omega)]
      simp
  | succ r ih =>
    intro i V w hV h13 h14 hi
    have hlt : (i : Int) < k := by omega
    have hV1 : VT E.Wg b3 b5 b7 b8 k (V.setIfInBounds 15 (.bool (decide ((i : Int) < k)))) := ⟨by simp [hV.size], by simp [hV.a1], by simp [hV.a3], by simp [hV.a5], by simp [hV.a7], by simp [hV.a8], by simp [hV.a9]⟩
    have h15 : (V.setIfInBounds 15 (.bool (decide ((i : Int) < k))))[15]? = some (.bool true) := by
      have := hV.size
      rw [Array.getElem?_setIfInBounds_self_of_lt (by omega)]
      simp [hlt]
    have h13' : (V.setIfInBounds 15 (.bool (decide ((i : Int) < k))))[13]? = some (.int .i64 k) := by simp [h13]
    have h14' : (V.setIfInBounds 15 (.bool (decide ((i : Int) < k))))[14]? = some (.int .i64 i) := by simp [h14]
    refine NextM.idle (r := r + 1) (still_idle (n_test c cs E.Wg b3 b5 b7 b8 k V hV h13 h14)) ?_
    revert hV1 h15 h13' h14'
    generalize V.setIfInBounds 15 (.bool (decide ((i : Int) < k))) = V1
    intro hV1 h15 h13' h14'
    refine NextM.idle (r := r + 1) (still_idle (n_call c cs E.Wg b3 b5 b7 b8 k V1 hV1 h15)) ?_
    obtain ⟨n1, n2, n3⟩ := n_back c cs E.Wg b3 b5 b7 b8 k V1 hV1 h13' h14' h15
    obtain ⟨m1, m2, m3, m4⟩ := n_next c cs E.Wg b3 b5 b7 b8 k V1 hV1 h13' h14' h15
    have hw : IntKind.i64.wrap ((i : Int) + 1) = ((i + 1 : Nat) : Int) := by rw [wrap_small _ (by omega) (by omega)]; omega
    rw [hw] at m3
    have onward : ∀ w, NextM Tryd.prog E F r (GN c cs V1) w := fun w => NextM.idle (still_idle m4) (NextM.idle (still_idle (n_loop c cs E.Wg b3 b5 b7 b8 k _ m1)) (ih (i + 1) _ w m1 m2 m3 (by omega)))
    have s4 : ∀ w, WayE Tryd.prog E true (SM4 Tryd.prog E F (NextM Tryd.prog E F r)) no no (G ((fA c cs V1).finish (.tuple #[])) (c :: cs)) w := fun w => Way.idle (still_idle n1) (way_stop fun w => ⟨n2, _, _, fun w _ => n3 w, fun w _ => ⟨birth hR h7 w, onward w⟩⟩)
    show WayE Tryd.prog E true (SM1 Tryd.prog E F (NextM Tryd.prog E F r)) no no _ w
    refine way_mark (a_dis (fA c cs V1) (c :: cs) E.Wg) fun a ha hst _ => ⟨ha, _, fun w _ => hst w, fun w _ => Way.idle (kn_idle (a_to (fA c cs V1) (c :: cs) E.Wg)) (way_stop fun w => ?_)⟩
    have hsit := a_sits (fA c cs V1) (c :: cs) E.Wg
    refine ⟨sits_run hsit, fun w j hk hw hj => ?_⟩
    have hKK : (KK : Int) = 4294967296 := rfl
    refine add_acts (d := 4294967296) hsit hw ?_ fun w' => ?_
    · rw [IntKind.wrap_u64, hKK]; omega
    · cases j with
      | zero =>
        have e : ((0 + 1 : Nat) : Int) * KK = 4294967296 := by rw [hKK]; rfl
        rw [e]
        obtain ⟨g, a1, a2⟩ := a_one (fA c cs V1) (c :: cs) E.Wg
        exact way_mark a1 fun a ha hst _ => ⟨ha, _, fun w _ => hst w, fun w _ => Way.idle (still_idle a2) (s4 w)⟩
      | succ j =>
        obtain ⟨a1, a2⟩ := a_more (fA c cs V1) (c :: cs) E.Wg (j + 1) (by omega) hj
        exact way_mark a1 fun a ha hst _ => ⟨ha, _, fun w _ => hst w, fun w _ => Way.idle (still_idle a2) (s4 w)⟩
end
end Mc
end Go.Proofs.YtbkjjknlphlhlaaDoor
