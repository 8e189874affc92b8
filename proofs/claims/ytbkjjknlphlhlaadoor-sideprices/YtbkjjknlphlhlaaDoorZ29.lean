/- The main in handOut: its loop, from select to select. -/
import Derived.Deep.MidRow
import Derived.Conc.AppendEvents3
import Derived.Conc.EventLaws
import Derived.Test.YtbkjjknlphlhlaaDoorZ28
namespace Go.Proofs.YtbkjjknlphlhlaaDoor
namespace Ev
open Go.Conc Go.ConcN
open Go.ConcR (KK WgAt stA smA rd wr mk)
set_option maxRecDepth 100000
theorem array37 (T : Array Value) (h : T.size = 37) : ∃ u0 u1 u2 u3 u4 u5 u6 u7 u8 u9 u10 u11 u12 u13 u14 u15 u16 u17 u18 u19 u20 u21 u22 u23 u24 u25 u26 u27 u28 u29 u30 u31 u32 u33 u34 u35 u36, T = #[u0, u1, u2, u3, u4, u5, u6, u7, u8, u9, u10, u11, u12, u13, u14, u15, u16, u17, u18, u19, u20, u21, u22, u23, u24, u25, u26, u27, u28, u29, u30, u31, u32, u33, u34, u35, u36] := by
  obtain ⟨l⟩ := T
  simp only [List.size_toArray] at h
  rcases l with _ | ⟨u0, l⟩
  · simp at h
  rcases l with _ | ⟨u1, l⟩
  · simp at h
  rcases l with _ | ⟨u2, l⟩
  · simp at h
  rcases l with _ | ⟨u3, l⟩
  · simp at h
  rcases l with _ | ⟨u4, l⟩
  · simp at h
  rcases l with _ | ⟨u5, l⟩
  · simp at h
  rcases l with _ | ⟨u6, l⟩
  · simp at h
  rcases l with _ | ⟨u7, l⟩
  · simp at h
  rcases l with _ | ⟨u8, l⟩
  · simp at h
  rcases l with _ | ⟨u9, l⟩
  · simp at h
  rcases l with _ | ⟨u10, l⟩
  · simp at h
  rcases l with _ | ⟨u11, l⟩
  · simp at h
  rcases l with _ | ⟨u12, l⟩
  · simp at h
  rcases l with _ | ⟨u13, l⟩
  · simp at h
  rcases l with _ | ⟨u14, l⟩
  · simp at h
  rcases l with _ | ⟨u15, l⟩
  · simp at h
  rcases l with _ | ⟨u16, l⟩
  · simp at h
  rcases l with _ | ⟨u17, l⟩
  · simp at h
  rcases l with _ | ⟨u18, l⟩
  · simp at h
  rcases l with _ | ⟨u19, l⟩
  · simp at h
  rcases l with _ | ⟨u20, l⟩
  · simp at h
  rcases l with _ | ⟨u21, l⟩
  · simp at h
  rcases l with _ | ⟨u22, l⟩
  · simp at h
  rcases l with _ | ⟨u23, l⟩
  · simp at h
  rcases l with _ | ⟨u24, l⟩
  · simp at h
  rcases l with _ | ⟨u25, l⟩
  · simp at h
  rcases l with _ | ⟨u26, l⟩
  · simp at h
  rcases l with _ | ⟨u27, l⟩
  · simp at h
  rcases l with _ | ⟨u28, l⟩
  · simp at h
  rcases l with _ | ⟨u29, l⟩
  · simp at h
  rcases l with _ | ⟨u30, l⟩
  · simp at h
  rcases l with _ | ⟨u31, l⟩
  · simp at h
  rcases l with _ | ⟨u32, l⟩
  · simp at h
  rcases l with _ | ⟨u33, l⟩
  · simp at h
  rcases l with _ | ⟨u34, l⟩
  · simp at h
  rcases l with _ | ⟨u35, l⟩
  · simp at h
  rcases l with _ | ⟨u36, l⟩
  · simp at h
  rcases l with _ | ⟨v, l⟩
  · exact ⟨u0, u1, u2, u3, u4, u5, u6, u7, u8, u9, u10, u11, u12, u13, u14, u15, u16, u17, u18, u19, u20, u21, u22, u23, u24, u25, u26, u27, u28, u29, u30, u31, u32, u33, u34, u35, u36, rfl⟩
  · simp at h

section
variable (d c : Frame) (cs : List Frame)
noncomputable def Y0 : Goroutine := G (Frame.enter Tryd.prog 35 #[.int .i64 0, .chan none, .chan none] .normal) (d :: c :: cs)
/-- At the making of the list. -/
noncomputable def YM (U : Array Value) : Goroutine := putT (adv Tryd.prog true 7 (Y0 d c cs)) U
noncomputable def Ud : Array Value := (Array.replicate 37 undef).setIfInBounds 0 (.int .i64 0) |>.setIfInBounds 1 (.chan none) |>.setIfInBounds 2 (.chan none) |>.setIfInBounds 7 (.slice none 0 0) |>.setIfInBounds 8 (.int .i64 0) |>.setIfInBounds 9 (.int .i64 0)
noncomputable def YB (U : Array Value) : Goroutine := putT (adv Tryd.prog true 13 (fin (YM d c cs (Ud.setIfInBounds 11 (.int .i64 0))) (.slice none 0 0))) U
noncomputable def YL (U : Array Value) : Goroutine := putT (dropI (YB d c cs U)) U
noncomputable def YC (U : Array Value) : Goroutine := putT (adv Tryd.prog true 7 (YB d c cs Ud)) U
noncomputable def YD (U : Array Value) : Goroutine := putT (adv Tryd.prog true 10 (YC d c cs (Ud.setIfInBounds 15 (.bool true)))) U
/-- At the select. -/
noncomputable def YS (U : Array Value) : Goroutine := putT (adv Tryd.prog true 16 (YD d c cs (Ud.setIfInBounds 18 (.bool false)))) U
variable (bl : Nat) (n sl cp : Nat) (nc : Value) (cd : Nat) (next got : Int)
structure UT (U : Array Value) : Prop where
  size : U.size = 37
  a0 : U[0]? = some (.int .i64 n)
  a1 : U[1]? = some nc
  a2 : U[2]? = some (.chan (some cd))
  a7 : U[7]? = some (.slice (some ⟨bl, 0, none⟩) sl cp)
  a8 : U[8]? = some (.int .i64 next)
  a9 : U[9]? = some (.int .i64 got)
variable (U : Array Value)
theorem y_made (hU : U.size = 37) (h0 : U[0]? = some (.int .i64 n)) (h1 : U[1]? = some nc) (h2 : U[2]? = some (.chan (some cd))) : UT bl n sl cp nc cd 0 0 (adv Tryd.prog true 13 (fin (YM d c cs U) (.slice (some ⟨bl, 0, none⟩) sl cp))).frame.tmps ∧ Still Tryd.prog true 13 (fin (YM d c cs U) (.slice (some ⟨bl, 0, none⟩) sl cp)) (YB d c cs (adv Tryd.prog true 13 (fin (YM d c cs U) (.slice (some ⟨bl, 0, none⟩) sl cp))).frame.tmps) := by
  obtain ⟨u0, u1, u2, u3, u4, u5, u6, u7, u8, u9, u10, u11, u12, u13, u14, u15, u16, u17, u18, u19, u20, u21, u22, u23, u24, u25, u26, u27, u28, u29, u30, u31, u32, u33, u34, u35, u36, rfl⟩ := array37 U hU
  simp only [List.getElem?_toArray, List.getElem?_cons_zero, Option.some.injEq] at h0
  subst h0
  simp only [List.getElem?_toArray, List.getElem?_cons_succ, List.getElem?_cons_zero, Option.some.injEq] at h1
  subst h1
  simp only [List.getElem?_toArray, List.getElem?_cons_succ, List.getElem?_cons_zero, Option.some.injEq] at h2
  subst h2
  exact ⟨⟨by kernel_rfl, by kernel_rfl, by kernel_rfl, by kernel_rfl, by kernel_rfl, by kernel_rfl, by kernel_rfl⟩, (still_to (n := 13) (still_of (fun w => by kernel_rfl) (by kernel_rfl) (by kernel_rfl)) (by kernel_rfl))⟩
section
variable (hU : UT bl n sl cp nc cd next got U)
 include hU
theorem y_loop : Still Tryd.prog true 1 (YL d c cs U) (YB d c cs U) := by
  obtain ⟨u0, u1, u2, u3, u4, u5, u6, u7, u8, u9, u10, u11, u12, u13, u14, u15, u16, u17, u18, u19, u20, u21, u22, u23, u24, u25, u26, u27, u28, u29, u30, u31, u32, u33, u34, u35, u36, rfl⟩ := array37 U hU.size
  have h0 := hU.a0; have h1 := hU.a1; have h2 := hU.a2; have h7 := hU.a7; have h8 := hU.a8; have h9 := hU.a9
  simp only [List.getElem?_toArray, List.getElem?_cons_zero, Option.some.injEq] at h0
  subst h0
  simp only [List.getElem?_toArray, List.getElem?_cons_succ, List.getElem?_cons_zero, Option.some.injEq] at h1
  subst h1
  simp only [List.getElem?_toArray, List.getElem?_cons_succ, List.getElem?_cons_zero, Option.some.injEq] at h2
  subst h2
  simp only [List.getElem?_toArray, List.getElem?_cons_succ, List.getElem?_cons_zero, Option.some.injEq] at h7
  subst h7
  simp only [List.getElem?_toArray, List.getElem?_cons_succ, List.getElem?_cons_zero, Option.some.injEq] at h8
  subst h8
  simp only [List.getElem?_toArray, List.getElem?_cons_succ, List.getElem?_cons_zero, Option.some.injEq] at h9
  subst h9
  exact (still_to (n := 1) (still_of (fun w => by kernel_rfl) (by kernel_rfl) (by kernel_rfl)) (by kernel_rfl))
theorem y_test : ∃ U2, UT bl n sl cp nc cd next got U2 ∧ U2[15]? = some (.bool (decide (got < n))) ∧ Still Tryd.prog true 7 (YB d c cs U) (YC d c cs U2) := by
  refine ⟨(adv Tryd.prog true 7 (YB d c cs U)).frame.tmps, ?_⟩
  obtain ⟨u0, u1, u2, u3, u4, u5, u6, u7, u8, u9, u10, u11, u12, u13, u14, u15, u16, u17, u18, u19, u20, u21, u22, u23, u24, u25, u26, u27, u28, u29, u30, u31, u32, u33, u34, u35, u36, rfl⟩ := array37 U hU.size
  have h0 := hU.a0; have h1 := hU.a1; have h2 := hU.a2; have h7 := hU.a7; have h8 := hU.a8; have h9 := hU.a9
  simp only [List.getElem?_toArray, List.getElem?_cons_zero, Option.some.injEq] at h0
  subst h0
  simp only [List.getElem?_toArray, List.getElem?_cons_succ, List.getElem?_cons_zero, Option.some.injEq] at h1
  subst h1
  simp only [List.getElem?_toArray, List.getElem?_cons_succ, List.getElem?_cons_zero, Option.some.injEq] at h2
  subst h2
  simp only [List.getElem?_toArray, List.getElem?_cons_succ, List.getElem?_cons_zero, Option.some.injEq] at h7
  subst h7
  simp only [List.getElem?_toArray, List.getElem?_cons_succ, List.getElem?_cons_zero, Option.some.injEq] at h8
  subst h8
  simp only [List.getElem?_toArray, List.getElem?_cons_succ, List.getElem?_cons_zero, Option.some.injEq] at h9
  subst h9
  exact ⟨⟨by kernel_rfl, by kernel_rfl, by kernel_rfl, by kernel_rfl, by kernel_rfl, by kernel_rfl, by kernel_rfl⟩, by kernel_rfl, (still_to (n := 7) (still_of (fun w => by kernel_rfl) (by kernel_rfl) (by kernel_rfl)) (by kernel_rfl))⟩
theorem y_test2 (h15 : U[15]? = some (.bool true)) : ∃ U2, UT bl n sl cp nc cd next got U2 ∧ U2[18]? = some (.bool (next == n)) ∧ Still Tryd.prog true 10 (YC d c cs U) (YD d c cs U2) := by
  refine ⟨(adv Tryd.prog true 10 (YC d c cs U)).frame.tmps, ?_⟩
  obtain ⟨u0, u1, u2, u3, u4, u5, u6, u7, u8, u9, u10, u11, u12, u13, u14, u15, u16, u17, u18, u19, u20, u21, u22, u23, u24, u25, u26, u27, u28, u29, u30, u31, u32, u33, u34, u35, u36, rfl⟩ := array37 U hU.size
  have h0 := hU.a0; have h1 := hU.a1; have h2 := hU.a2; have h7 := hU.a7; have h8 := hU.a8; have h9 := hU.a9
  simp only [List.getElem?_toArray, List.getElem?_cons_zero, Option.some.injEq] at h0
  subst h0
  simp only [List.getElem?_toArray, List.getElem?_cons_succ, List.getElem?_cons_zero, Option.some.injEq] at h1
  subst h1
  simp only [List.getElem?_toArray, List.getElem?_cons_succ, List.getElem?_cons_zero, Option.some.injEq] at h2
  subst h2
  simp only [List.getElem?_toArray, List.getElem?_cons_succ, List.getElem?_cons_zero, Option.some.injEq] at h7
  subst h7
  simp only [List.getElem?_toArray, List.getElem?_cons_succ, List.getElem?_cons_zero, Option.some.injEq] at h8
  subst h8
  simp only [List.getElem?_toArray, List.getElem?_cons_succ, List.getElem?_cons_zero, Option.some.injEq] at h9
  subst h9
  simp only [List.getElem?_toArray, List.getElem?_cons_succ, List.getElem?_cons_zero, Option.some.injEq] at h15
  subst h15
  exact ⟨⟨by kernel_rfl, by kernel_rfl, by kernel_rfl, by kernel_rfl, by kernel_rfl, by kernel_rfl, by kernel_rfl⟩, by kernel_rfl, (still_to (n := 10) (still_of (fun w => by kernel_rfl) (by kernel_rfl) (by kernel_rfl)) (by kernel_rfl))⟩
theorem y_some (h18 : U[18]? = some (.bool false)) : ∃ U2, UT bl n sl cp nc cd next got U2 ∧ U2[19]? = some nc ∧ U2[20]? = some (.int .i64 next) ∧ U2[21]? = some (.chan (some cd)) ∧ Still Tryd.prog true 16 (YD d c cs U) (YS d c cs U2) := by
  refine ⟨(adv Tryd.prog true 16 (YD d c cs U)).frame.tmps, ?_⟩
  obtain ⟨u0, u1, u2, u3, u4, u5, u6, u7, u8, u9, u10, u11, u12, u13, u14, u15, u16, u17, u18, u19, u20, u21, u22, u23, u24, u25, u26, u27, u28, u29, u30, u31, u32, u33, u34, u35, u36, rfl⟩ := array37 U hU.size
  have h0 := hU.a0; have h1 := hU.a1; have h2 := hU.a2; have h7 := hU.a7; have h8 := hU.a8; have h9 := hU.a9
  simp only [List.getElem?_toArray, List.getElem?_cons_zero, Option.some.injEq] at h0
  subst h0
  simp only [List.getElem?_toArray, List.getElem?_cons_succ, List.getElem?_cons_zero, Option.some.injEq] at h1
  subst h1
  simp only [List.getElem?_toArray, List.getElem?_cons_succ, List.getElem?_cons_zero, Option.some.injEq] at h2
  subst h2
  simp only [List.getElem?_toArray, List.getElem?_cons_succ, List.getElem?_cons_zero, Option.some.injEq] at h7
  subst h7
  simp only [List.getElem?_toArray, List.getElem?_cons_succ, List.getElem?_cons_zero, Option.some.injEq] at h8
  subst h8
  simp only [List.getElem?_toArray, List.getElem?_cons_succ, List.getElem?_cons_zero, Option.some.injEq] at h9
  subst h9
  simp only [List.getElem?_toArray, List.getElem?_cons_succ, List.getElem?_cons_zero, Option.some.injEq] at h18
  subst h18
  exact ⟨⟨by kernel_rfl, by kernel_rfl, by kernel_rfl, by kernel_rfl, by kernel_rfl, by kernel_rfl, by kernel_rfl⟩, by kernel_rfl, by kernel_rfl, by kernel_rfl, (still_to (n := 16) (still_of (fun w => by kernel_rfl) (by kernel_rfl) (by kernel_rfl)) (by kernel_rfl))⟩
theorem y_none (h18 : U[18]? = some (.bool true)) : ∃ U2, UT bl n sl cp (.chan none) cd next got U2 ∧ U2[19]? = some (.chan none) ∧ U2[20]? = some (.int .i64 next) ∧ U2[21]? = some (.chan (some cd)) ∧ Still Tryd.prog true 18 (YD d c cs U) (YS d c cs U2) := by
  refine ⟨(adv Tryd.prog true 18 (YD d c cs U)).frame.tmps, ?_⟩
  obtain ⟨u0, u1, u2, u3, u4, u5, u6, u7, u8, u9, u10, u11, u12, u13, u14, u15, u16, u17, u18, u19, u20, u21, u22, u23, u24, u25, u26, u27, u28, u29, u30, u31, u32, u33, u34, u35, u36, rfl⟩ := array37 U hU.size
  have h0 := hU.a0; have h1 := hU.a1; have h2 := hU.a2; have h7 := hU.a7; have h8 := hU.a8; have h9 := hU.a9
  simp only [List.getElem?_toArray, List.getElem?_cons_zero, Option.some.injEq] at h0
  subst h0
  simp only [List.getElem?_toArray, List.getElem?_cons_succ, List.getElem?_cons_zero, Option.some.injEq] at h1
  subst h1
  simp only [List.getElem?_toArray, List.getElem?_cons_succ, List.getElem?_cons_zero, Option.some.injEq] at h2
  subst h2
  simp only [List.getElem?_toArray, List.getElem?_cons_succ, List.getElem?_cons_zero, Option.some.injEq] at h7
  subst h7
  simp only [List.getElem?_toArray, List.getElem?_cons_succ, List.getElem?_cons_zero, Option.some.injEq] at h8
  subst h8
  simp only [List.getElem?_toArray, List.getElem?_cons_succ, List.getElem?_cons_zero, Option.some.injEq] at h9
  subst h9
  simp only [List.getElem?_toArray, List.getElem?_cons_succ, List.getElem?_cons_zero, Option.some.injEq] at h18
  subst h18
  exact ⟨⟨by kernel_rfl, by kernel_rfl, by kernel_rfl, by kernel_rfl, by kernel_rfl, by kernel_rfl, by kernel_rfl⟩, by kernel_rfl, by kernel_rfl, by kernel_rfl, (still_to (n := 18) (still_of (fun w => by kernel_rfl) (by kernel_rfl) (by kernel_rfl)) (by kernel_rfl))⟩
theorem y_end (h15 : U[15]? = some (.bool false)) : Still Tryd.prog true 9 (YC d c cs U) (G (d.finish (.slice (some ⟨bl, 0, none⟩) sl cp)) (c :: cs)) := by
  obtain ⟨u0, u1, u2, u3, u4, u5, u6, u7, u8, u9, u10, u11, u12, u13, u14, u15, u16, u17, u18, u19, u20, u21, u22, u23, u24, u25, u26, u27, u28, u29, u30, u31, u32, u33, u34, u35, u36, rfl⟩ := array37 U hU.size
  have h0 := hU.a0; have h1 := hU.a1; have h2 := hU.a2; have h7 := hU.a7; have h8 := hU.a8; have h9 := hU.a9
  simp only [List.getElem?_toArray, List.getElem?_cons_zero, Option.some.injEq] at h0
  subst h0
  simp only [List.getElem?_toArray, List.getElem?_cons_succ, List.getElem?_cons_zero, Option.some.injEq] at h1
  subst h1
  simp only [List.getElem?_toArray, List.getElem?_cons_succ, List.getElem?_cons_zero, Option.some.injEq] at h2
  subst h2
  simp only [List.getElem?_toArray, List.getElem?_cons_succ, List.getElem?_cons_zero, Option.some.injEq] at h7
  subst h7
  simp only [List.getElem?_toArray, List.getElem?_cons_succ, List.getElem?_cons_zero, Option.some.injEq] at h8
  subst h8
  simp only [List.getElem?_toArray, List.getElem?_cons_succ, List.getElem?_cons_zero, Option.some.injEq] at h9
  subst h9
  simp only [List.getElem?_toArray, List.getElem?_cons_succ, List.getElem?_cons_zero, Option.some.injEq] at h15
  subst h15
  exact (still_to (n := 9) (still_of (fun w => by kernel_rfl) (by kernel_rfl) (by kernel_rfl)) (by kernel_rfl))
/-- The select: with a number, and without. -/
theorem y_sel {v : Value} (hv : v = .chan none ∨ ∃ q, v = .chan (some q)) (h19 : U[19]? = some v) (h20 : U[20]? = some (.int .i64 next)) (h21 : U[21]? = some (.chan (some cd))) : (YS d c cs U).status = .running ∧ ∀ w, stepG Tryd.prog true (YS d c cs U) w = .comm (YS d c cs U) #[{ chan := v, send := some (.int .i64 next), zero := .int .i64 0 }, rcase cd (.agg #[.int .i64 0, .int .i64 0, .nilIface])] true .select w #[] := by
  obtain ⟨u0, u1, u2, u3, u4, u5, u6, u7, u8, u9, u10, u11, u12, u13, u14, u15, u16, u17, u18, u19, u20, u21, u22, u23, u24, u25, u26, u27, u28, u29, u30, u31, u32, u33, u34, u35, u36, rfl⟩ := array37 U hU.size
  have h0 := hU.a0; have h1 := hU.a1; have h2 := hU.a2; have h7 := hU.a7; have h8 := hU.a8; have h9 := hU.a9
  simp only [List.getElem?_toArray, List.getElem?_cons_zero, Option.some.injEq] at h0
  subst h0
  simp only [List.getElem?_toArray, List.getElem?_cons_succ, List.getElem?_cons_zero, Option.some.injEq] at h1
  subst h1
  simp only [List.getElem?_toArray, List.getElem?_cons_succ, List.getElem?_cons_zero, Option.some.injEq] at h2
  subst h2
  simp only [List.getElem?_toArray, List.getElem?_cons_succ, List.getElem?_cons_zero, Option.some.injEq] at h7
  subst h7
  simp only [List.getElem?_toArray, List.getElem?_cons_succ, List.getElem?_cons_zero, Option.some.injEq] at h8
  subst h8
  simp only [List.getElem?_toArray, List.getElem?_cons_succ, List.getElem?_cons_zero, Option.some.injEq] at h9
  subst h9
  simp only [List.getElem?_toArray, List.getElem?_cons_succ, List.getElem?_cons_zero, Option.some.injEq] at h19
  subst h19
  simp only [List.getElem?_toArray, List.getElem?_cons_succ, List.getElem?_cons_zero, Option.some.injEq] at h20
  subst h20
  simp only [List.getElem?_toArray, List.getElem?_cons_succ, List.getElem?_cons_zero, Option.some.injEq] at h21
  subst h21
  rcases hv with rfl | ⟨q, rfl⟩
  · exact ⟨by kernel_rfl, fun w => by kernel_rfl⟩
  · exact ⟨by kernel_rfl, fun w => by kernel_rfl⟩
/-- A number went. -/
theorem y_gone {c0 : CommCase} (hs : c0.send = some (.int .i64 next)) : ∃ U2, UT bl n sl cp nc cd (IntKind.i64.wrap (next + 1)) got U2 ∧ Still Tryd.prog true 13 ((YS d c cs U).finishComm Tryd.prog #[c0, rcase cd (.agg #[.int .i64 0, .int .i64 0, .nilIface])] .select 0 undef false) (YL d c cs U2) := by
  obtain ⟨ch, sn, ze⟩ := c0
  dsimp only at hs
  subst hs
  refine ⟨(adv Tryd.prog true 13 ((YS d c cs U).finishComm Tryd.prog #[⟨ch, some (.int .i64 next), ze⟩, rcase cd (.agg #[.int .i64 0, .int .i64 0, .nilIface])] .select 0 undef false)).frame.tmps, ?_⟩
  obtain ⟨u0, u1, u2, u3, u4, u5, u6, u7, u8, u9, u10, u11, u12, u13, u14, u15, u16, u17, u18, u19, u20, u21, u22, u23, u24, u25, u26, u27, u28, u29, u30, u31, u32, u33, u34, u35, u36, rfl⟩ := array37 U hU.size
  have h0 := hU.a0; have h1 := hU.a1; have h2 := hU.a2; have h7 := hU.a7; have h8 := hU.a8; have h9 := hU.a9
  simp only [List.getElem?_toArray, List.getElem?_cons_zero, Option.some.injEq] at h0
  subst h0
  simp only [List.getElem?_toArray, List.getElem?_cons_succ, List.getElem?_cons_zero, Option.some.injEq] at h1
  subst h1
  simp only [List.getElem?_toArray, List.getElem?_cons_succ, List.getElem?_cons_zero, Option.some.injEq] at h2
  subst h2
  simp only [List.getElem?_toArray, List.getElem?_cons_succ, List.getElem?_cons_zero, Option.some.injEq] at h7
  subst h7
  simp only [List.getElem?_toArray, List.getElem?_cons_succ, List.getElem?_cons_zero, Option.some.injEq] at h8
  subst h8
  simp only [List.getElem?_toArray, List.getElem?_cons_succ, List.getElem?_cons_zero, Option.some.injEq] at h9
  subst h9
  exact ⟨⟨by kernel_rfl, by kernel_rfl, by kernel_rfl, by kernel_rfl, by kernel_rfl, by kernel_rfl, by kernel_rfl⟩, (still_to (n := 13) (still_of (fun w => by kernel_rfl) (by kernel_rfl) (by kernel_rfl)) (by kernel_rfl))⟩
end
end
end Ev
end Go.Proofs.YtbkjjknlphlhlaaDoor
namespace Go.Proofs.YtbkjjknlphlhlaaDoor
theorem Sim.seen_sub {P : Program} (fn : FuncId) (es : Array Event) : ∀ e ∈ seen P fn es, e ∈ es := by
  intro e he
  unfold seen at he
  have key : ∀ (l : List Event) (q : Bool) (kept : Array Event), (∀ x ∈ (l.foldl (fun (p : Bool × Array Event) e => match e.loc with
      | .mark (.extern f) => ((P.funcs[f]?).any (·.norace), p.2)
      | _ => (p.1, if p.1 && !e.sync then p.2 else p.2.push e)) (q, kept)).2, x ∈ kept ∨ x ∈ l) := by
    intro l
    induction l with
    | nil => intro q kept x hx; exact .inl hx
    | cons y l ih =>
      intro q kept x hx
      rw [List.foldl_cons] at hx
      have := ih _ _ x hx
      rcases this with h | h
      · split at h
        · exact .inl h
        · dsimp only at h
          split at h
          · exact .inl h
          · rcases Array.mem_push.1 h with h | rfl
            · exact .inl h
            · exact .inr (by simp)
      · exact .inr (by simp [h])
  dsimp only at he
  rw [← Array.foldl_toList] at he
  rcases key _ _ _ e he with h | h
  · simp at h
  · exact Array.mem_toList_iff.1 h
namespace Ev
open Go.Conc Go.RowKit
set_option maxRecDepth 100000
def storeOf (g : Goroutine) : Option (TypeId × Value × Value) := match curOp g with
  | some { op := .store t x y, .. } => some (t, g.frame.eval x, g.frame.eval y)
  | _ => none
def allocOf (g : Goroutine) : Option TypeId := match curOp g with
  | some { op := .alloc t, .. } => some t
  | _ => none
def indexOf (g : Goroutine) : Option (TypeId × Value × Value) := match curOp g with
  | some { op := .indexAddr t x y, .. } => some (t, g.frame.eval x, g.frame.eval y)
  | _ => none
def zrow : Obj := .cells #[.int .i64 0, .int .i64 0, .nilIface] 55
theorem ev_store {P : Program} (b o : Nat) (t : TypeId) : ∀ (vs : List Value) (i : Nat) (cur : Array Value) (w : World) (es : Array Event), w.heap[b]? = some (.cells cur t (0, 0)) → o + i + vs.length ≤ cur.size → (∀ v ∈ vs, v.oneCell' = true) →
    ∀ ev ∈ (storeCells ⟨b, o, none⟩ vs i).events P w es, ev ∈ es ∨ ∃ ad : Addr, ev = ⟨.cell ad, true, false⟩ ∧ ad.block = b
  | [], _, _, _, _, _, _, _ => fun ev h => .inl (by simpa [storeCells] using h)
  | v :: rest, i, cur, w, es, hg, hl, h1 => fun ev h => by
    have hi : o + i < cur.size := by simp at hl; omega
    have hadd : (⟨b, o, none⟩ : Addr).add i = ⟨b, o + i, none⟩ := Addr.add_mid b o i
    have hcell : w.cell? ⟨b, o + i, none⟩ = some cur[o + i] := by simp [World.cell?, hg, hi]
    have hfro : w.frozen? ⟨b, o + i, none⟩ = false := by simp [World.frozen?, hg]
    have hst : (store ((⟨b, o, none⟩ : Addr).add i) v).run P w = .ok () (w.setRow b (cur.setIfInBounds (o + i) v)) := by
      rw [hadd, run_store P w _ v _ (h1 v (by simp)), hcell]
      simp [hfro, setCell_eq_setRow w b (o + i) cur t (0, 0) v hg]
    have hev : (store ((⟨b, o, none⟩ : Addr).add i) v).events P w es = es.push ⟨.cell ⟨b, o + i, none⟩, true, false⟩ := by
      rw [hadd, events_store P w es _ v _ (h1 v (by simp)), hcell]
      simp only [hfro, Bool.false_eq_true, if_false]
      rfl
    simp only [storeCells, Sem.events_bind, hst, Result.evThen_ok, hev] at h
    rcases ev_store b o t rest (i + 1) (cur.setIfInBounds (o + i) v) (w.setRow b (cur.setIfInBounds (o + i) v)) _ (setRow_heap w b cur _ t _ hg) (by simp at hl ⊢; omega) (fun x hx => h1 x (by simp [hx])) ev h with h | h
    · rcases Array.mem_push.1 h with h | rfl
      · exact .inl h
      · exact .inr ⟨_, rfl, rfl⟩
    · exact .inr h
section
variable {main : Bool} {g : Goroutine} {w : World}
theorem alloc_row (h : allocOf g = some 55) : stepG Tryd.prog main g w = .go (fin g (.pointer (some ⟨w.heap.size, 0, none⟩))) (w.alloc zrow) #[] := by
  unfold allocOf at h
  split at h
  · rename_i d t' ty ps af gd e
    simp only [Option.some.injEq] at h
    subst h
    have hr : (Instr.alloc 55 true (.tuple #[])).run Tryd.prog w = .ok (.pointer (some ⟨w.heap.size, 0, none⟩)) (w.alloc zrow) := by kernel_rfl
    have e2 : (execOp g.frame.eval { dst := d, op := .alloc 55, type := ty, pos := ps, after := af, guard := gd }).events Tryd.prog w #[] = #[] := by unfold execOp; simp [go_sem]
    rw [opv_step e (v := .pointer (some ⟨w.heap.size, 0, none⟩)) (w' := w.alloc zrow) (by unfold execOp; rw [Sem.run_bind, hr]; rfl), e2, seen_none]
  · cases h
theorem index_row {b n cp : Nat} {i : Nat} (h : indexOf g = some (52, .slice (some ⟨b, 0, none⟩) n cp, .int .i64 i)) (hi : i < n) : stepG Tryd.prog main g w = .go (fin g (.pointer (some ⟨b, 3 * i, none⟩))) w #[] := by
  unfold indexOf at h
  split at h
  · rename_i d t' x y ty ps af gd e
    simp only [Option.some.injEq, Prod.mk.injEq] at h
    obtain ⟨rfl, hx, hy⟩ := h
    have hu : Tryd.prog.underlying 52 = some (.slice (Tryd.prog.elem 52)) := by kernel_rfl
    have hs : ∀ w : World, Sem.run Tryd.prog (sizeOf (Tryd.prog.elem 52)) w = .ok 3 w := fun w => by kernel_rfl
    have ha : (⟨b, 0, none⟩ : Addr).add (i * 3) = ⟨b, 3 * i, none⟩ := by rw [Addr.add_mid]; congr 1; omega
    have hr : (Instr.indexAt 52 (.slice (some ⟨b, 0, none⟩) n cp) (.int .i64 i)).run Tryd.prog w = .ok (.pointer (some ⟨b, 3 * i, none⟩)) w := by
      rw [run_indexAt_slice (h := hu)]
      simp [hs, ha, hi]
    have he : (Instr.indexAt 52 (.slice (some ⟨b, 0, none⟩) n cp) (.int .i64 i)).events Tryd.prog w #[] = #[] := by
      rw [events_indexAt_slice (h := hu) (hi := ⟨by omega, by omega⟩)]
    rw [opv_step e (v := .pointer (some ⟨b, 3 * i, none⟩)) (w' := w) (by unfold execOp; simp only [hx, hy]; rw [Sem.run_bind, hr]; rfl)]
    congr 1
    rw [show (execOp g.frame.eval { dst := d, op := .indexAddr 52 x y, type := ty, pos := ps, after := af, guard := gd }).events Tryd.prog w #[] = #[] by unfold execOp; simp only [hx, hy]; simp [go_sem, he]]
    exact seen_none _ _
  · cases h
theorem store_row {b o : Nat} {x y z : Value} {cur : Array Value} {t : TypeId} (h : storeOf g = some (55, .pointer (some ⟨b, o, none⟩), .agg #[x, y, z])) (hb : w.heap[b]? = some (.cells cur t (0, 0))) (ho : o + 3 ≤ cur.size) (h1 : x.oneCell' = true) (h2 : y.oneCell' = true) (h3 : z.oneCell' = true) :
    ∃ es, stepG Tryd.prog main g w = .go (fin g undef) (w.setCells b o [x, y, z]) es ∧ ∀ e ∈ es, ∃ ad : Addr, e = ⟨.cell ad, true, false⟩ ∧ ad.block = b := by
  unfold storeOf at h
  split at h
  · rename_i d t' p q ty ps af gd e
    simp only [Option.some.injEq, Prod.mk.injEq] at h
    obtain ⟨rfl, hx, hy⟩ := h
    have hc : ∀ j, j < 3 → w.cell? ⟨b, o + j, none⟩ = some cur[o + j]! := fun j hj => by
      have : o + j < cur.size := by omega
      simp [World.cell?, hb, this]
    have hf : ∀ j, w.frozen? ⟨b, o + j, none⟩ = false := fun j => by simp [World.frozen?, hb]
    have hr : (Instr.storeAt 55 (.pointer (some ⟨b, o, none⟩)) (.agg #[x, y, z])).run Tryd.prog w = .ok () (w.setCells b o [x, y, z]) :=
      run_storeAt_mid w b o 55 #[x, y, z] (fun j hj => ⟨by rw [hc j (by simpa using hj)]; rfl, hf j⟩) (by kernel_rfl) (by simp [h1, h2, h3])
    have hs : ∀ w : World, Sem.run Tryd.prog (sizeOf 55) w = .ok 3 w := fun w => by kernel_rfl
    refine ⟨_, ops_step e (w' := w.setCells b o [x, y, z]) (by unfold execOp; simp only [hx, hy]; rw [Sem.run_bind, hr]; rfl), fun ev hm => ?_⟩
    have hm := Sim.seen_sub _ _ ev hm
    refine (ev_store (P := Tryd.prog) b o t [x, y, z] 0 cur w #[] hb (by simpa using ho) (by simp [h1, h2, h3]) ev ?_).resolve_left (by simp)
    unfold execOp at hm
    simp only [hx, hy] at hm
    simpa [go_sem, Instr.storeAt, Instr.sureAddr, storeVar, hs, Value.cells] using hm
  · cases h
theorem load_row {b o : Nat} {x y z : Value} (h : loadOf g = some (55, .pointer (some ⟨b, o, none⟩))) (hc : w.rangeAt b o [x, y, z]) :
    ∃ es, stepG Tryd.prog main g w = .go (fin g (.agg #[x, y, z])) w es ∧ ∀ e ∈ es, ∃ ad : Addr, e = ⟨.cell ad, false, false⟩ ∧ ad.block = b := by
  unfold loadOf at h
  split at h
  · rename_i d t' p ty ps af gd e
    simp only [Option.some.injEq, Prod.mk.injEq] at h
    obtain ⟨rfl, hx⟩ := h
    have hq : (Tryd.prog.underlying 55).any (·.isRow) = true := by kernel_rfl
    obtain ⟨D, hu, hd⟩ : ∃ D, Tryd.prog.underlying 55 = some D ∧ D.isRow = true := by
      cases hq2 : Tryd.prog.underlying 55 with
      | none => rw [hq2] at hq; cases hq
      | some D => rw [hq2] at hq; exact ⟨D, rfl, hq⟩
    have hr : (Instr.loadAt 55 (.pointer (some ⟨b, o, none⟩))).run Tryd.prog w = .ok (.agg #[x, y, z]) w := run_loadAt_mid w b o 55 [x, y, z] D hc hu hd (by kernel_rfl)
    have hs : ∀ w : World, Sem.run Tryd.prog (sizeOf 55) w = .ok 3 w := fun w => by kernel_rfl
    have ha : ∀ w : World, Sem.run Tryd.prog (isAgg 55) w = .ok true w := fun w => by kernel_rfl
    have c0 : w.cell? ⟨b, o, none⟩ = some x := hc 0 x rfl
    have c1 := hc 1 y rfl
    have c2 := hc 2 z rfl
    refine ⟨_, opv_step e (v := .agg #[x, y, z]) (w' := w) (by unfold execOp; simp only [hx]; rw [Sem.run_bind, hr]; rfl), fun ev hm => ?_⟩
    have hm := Sim.seen_sub _ _ ev hm
    unfold execOp at hm
    simp only [hx] at hm
    simp [go_sem, Instr.loadAt, Instr.sureAddr, loadVar, hs, ha, loadCells, loadCellsFrom, Addr.add_mid, c0, c1, c2] at hm
    rcases hm with rfl | rfl | rfl
    · exact ⟨_, rfl, rfl⟩
    · exact ⟨_, rfl, rfl⟩
    · exact ⟨_, rfl, rfl⟩
  · cases h
/-- The block behind a store of a row. -/
theorem heap_row {b o : Nat} {x y z : Value} {cur : Array Value} {t : TypeId} (hb : w.heap[b]? = some (.cells cur t (0, 0))) :
    (w.setCells b o [x, y, z]).heap[b]? = some (.cells (((cur.setIfInBounds o x).setIfInBounds (o + 1) y).setIfInBounds (o + 2) z) t (0, 0)) := by
  simp only [World.setCells]
  rw [setCell_eq_setRow w b o cur t (0, 0) x hb, setCell_eq_setRow _ b (o + 1) _ t (0, 0) y (setRow_heap w b cur _ t _ hb), setCell_eq_setRow _ b (o + 2) _ t (0, 0) z (setRow_heap _ b _ _ t _ (setRow_heap w b cur _ t _ hb))]
  exact setRow_heap _ b _ _ t _ (setRow_heap _ b _ _ t _ (setRow_heap w b cur _ t _ hb))
end
end Ev
end Go.Proofs.YtbkjjknlphlhlaaDoor
namespace Go.Proofs.YtbkjjknlphlhlaaDoor
namespace Ev
open Go.Conc Go.ConcN
open Go.ConcR (KK WgAt stA smA rd wr mk)
set_option maxRecDepth 100000
section
variable (d c : Frame) (cs : List Frame) (bl : Nat) (n sl cp : Nat) (nc : Value) (cd : Nat) (next got : Int) (U : Array Value) (c0 c1 : Value) (i : Int) (p e : Value) (m o : Nat)
/-- Behind the select: a result came. -/
noncomputable def YG : Goroutine := (YS d c cs U).finishComm Tryd.prog #[⟨c0, some c1, .int .i64 0⟩, rcase cd (.agg #[.int .i64 0, .int .i64 0, .nilIface])] .select 1 (.agg #[.int .i64 i, p, e]) true
noncomputable def K1 : Goroutine := adv Tryd.prog true 10 (YG d c cs cd U c0 c1 i p e)
noncomputable def K2 : Goroutine := fin (K1 d c cs cd U c0 c1 i p e) (.pointer (some ⟨m, 0, none⟩))
noncomputable def K3 : Goroutine := adv Tryd.prog true 5 (fin (K2 d c cs cd U c0 c1 i p e m) undef)
noncomputable def K4 : Goroutine := fin (K3 d c cs cd U c0 c1 i p e m) (.int .i64 i)
noncomputable def K5 : Goroutine := fin (K4 d c cs cd U c0 c1 i p e m) (.agg #[.int .i64 i, p, e])
noncomputable def K6 : Goroutine := fin (K5 d c cs cd U c0 c1 i p e m) (.pointer (some ⟨bl, o, none⟩))
noncomputable def K7 : Goroutine := fin (K6 d c cs bl cd U c0 c1 i p e m o) undef
/-- The slots behind it. -/
noncomputable def KU : Array Value := (adv Tryd.prog true 8 (K7 d c cs bl cd U c0 c1 i p e m o)).frame.tmps
variable (hU : UT bl n sl cp nc cd next got U)
 include hU
theorem k_all : Still Tryd.prog true 10 (YG d c cs cd U c0 c1 i p e) (K1 d c cs cd U c0 c1 i p e) ∧ (K1 d c cs cd U c0 c1 i p e).status = .running ∧ allocOf (K1 d c cs cd U c0 c1 i p e) = some 55 ∧
    (K2 d c cs cd U c0 c1 i p e m).status = .running ∧ storeOf (K2 d c cs cd U c0 c1 i p e m) = some (55, .pointer (some ⟨m, 0, none⟩), .agg #[.int .i64 i, p, e]) ∧ Still Tryd.prog true 5 (fin (K2 d c cs cd U c0 c1 i p e m) undef) (K3 d c cs cd U c0 c1 i p e m) ∧
    (K3 d c cs cd U c0 c1 i p e m).status = .running ∧ loadOf (K3 d c cs cd U c0 c1 i p e m) = some (3, .pointer (some ⟨m, 0, none⟩)) ∧ (Tryd.prog.funcs[(K3 d c cs cd U c0 c1 i p e m).frame.fn]?).any (·.norace) = false ∧
    (K4 d c cs cd U c0 c1 i p e m).status = .running ∧ loadOf (K4 d c cs cd U c0 c1 i p e m) = some (55, .pointer (some ⟨m, 0, none⟩)) := by
  obtain ⟨u0, u1, u2, u3, u4, u5, u6, u7, u8, u9, u10, u11, u12, u13, u14, u15, u16, u17, u18, u19, u20, u21, u22, u23, u24, u25, u26, u27, u28, u29, u30, u31, u32, u33, u34, u35, u36, rfl⟩ := array37 U hU.size
  have h0 := hU.a0; have h1 := hU.a1; have h2 := hU.a2; have h7 := hU.a7; have h8 := hU.a8; have h9 := hU.a9
  simp only [List.getElem?_toArray, List.getElem?_cons_zero, Option.some.injEq] at h0
  subst h0
  simp only [List.getElem?_toArray, List.getElem?_cons_succ, List.getElem?_cons_zero, Option.some.injEq] at h1
  subst h1
  simp only [List.getElem?_toArray, List.getElem?_cons_succ, List.getElem?_cons_zero, Option.some.injEq] at h2
  subst h2
  simp only [List.getElem?_toArray, List.getElem?_cons_succ, List.getElem?_cons_zero, Option.some.injEq] at h7
  subst h7
  simp only [List.getElem?_toArray, List.getElem?_cons_succ, List.getElem?_cons_zero, Option.some.injEq] at h8
  subst h8
  simp only [List.getElem?_toArray, List.getElem?_cons_succ, List.getElem?_cons_zero, Option.some.injEq] at h9
  subst h9
  exact ⟨still_of (fun w => by kernel_rfl) (by kernel_rfl) (by kernel_rfl), by kernel_rfl, by kernel_rfl, by kernel_rfl, by kernel_rfl, still_of (fun w => by kernel_rfl) (by kernel_rfl) (by kernel_rfl), by kernel_rfl, by kernel_rfl, by kernel_rfl, by kernel_rfl, by kernel_rfl⟩
theorem k_more : (K5 d c cs cd U c0 c1 i p e m).status = .running ∧ indexOf (K5 d c cs cd U c0 c1 i p e m) = some (52, .slice (some ⟨bl, 0, none⟩) sl cp, .int .i64 i) ∧
    (K6 d c cs bl cd U c0 c1 i p e m o).status = .running ∧ storeOf (K6 d c cs bl cd U c0 c1 i p e m o) = some (55, .pointer (some ⟨bl, o, none⟩), .agg #[.int .i64 i, p, e]) := by
  obtain ⟨u0, u1, u2, u3, u4, u5, u6, u7, u8, u9, u10, u11, u12, u13, u14, u15, u16, u17, u18, u19, u20, u21, u22, u23, u24, u25, u26, u27, u28, u29, u30, u31, u32, u33, u34, u35, u36, rfl⟩ := array37 U hU.size
  have h0 := hU.a0; have h1 := hU.a1; have h2 := hU.a2; have h7 := hU.a7; have h8 := hU.a8; have h9 := hU.a9
  simp only [List.getElem?_toArray, List.getElem?_cons_zero, Option.some.injEq] at h0
  subst h0
  simp only [List.getElem?_toArray, List.getElem?_cons_succ, List.getElem?_cons_zero, Option.some.injEq] at h1
  subst h1
  simp only [List.getElem?_toArray, List.getElem?_cons_succ, List.getElem?_cons_zero, Option.some.injEq] at h2
  subst h2
  simp only [List.getElem?_toArray, List.getElem?_cons_succ, List.getElem?_cons_zero, Option.some.injEq] at h7
  subst h7
  simp only [List.getElem?_toArray, List.getElem?_cons_succ, List.getElem?_cons_zero, Option.some.injEq] at h8
  subst h8
  simp only [List.getElem?_toArray, List.getElem?_cons_succ, List.getElem?_cons_zero, Option.some.injEq] at h9
  subst h9
  exact ⟨by kernel_rfl, by kernel_rfl, by kernel_rfl, by kernel_rfl⟩
theorem k_back : UT bl n sl cp nc cd next (IntKind.i64.wrap (got + 1)) (KU d c cs bl cd U c0 c1 i p e m o) ∧ Still Tryd.prog true 8 (K7 d c cs bl cd U c0 c1 i p e m o) (YL d c cs (KU d c cs bl cd U c0 c1 i p e m o)) := by
  obtain ⟨u0, u1, u2, u3, u4, u5, u6, u7, u8, u9, u10, u11, u12, u13, u14, u15, u16, u17, u18, u19, u20, u21, u22, u23, u24, u25, u26, u27, u28, u29, u30, u31, u32, u33, u34, u35, u36, rfl⟩ := array37 U hU.size
  have h0 := hU.a0; have h1 := hU.a1; have h2 := hU.a2; have h7 := hU.a7; have h8 := hU.a8; have h9 := hU.a9
  simp only [List.getElem?_toArray, List.getElem?_cons_zero, Option.some.injEq] at h0
  subst h0
  simp only [List.getElem?_toArray, List.getElem?_cons_succ, List.getElem?_cons_zero, Option.some.injEq] at h1
  subst h1
  simp only [List.getElem?_toArray, List.getElem?_cons_succ, List.getElem?_cons_zero, Option.some.injEq] at h2
  subst h2
  simp only [List.getElem?_toArray, List.getElem?_cons_succ, List.getElem?_cons_zero, Option.some.injEq] at h7
  subst h7
  simp only [List.getElem?_toArray, List.getElem?_cons_succ, List.getElem?_cons_zero, Option.some.injEq] at h8
  subst h8
  simp only [List.getElem?_toArray, List.getElem?_cons_succ, List.getElem?_cons_zero, Option.some.injEq] at h9
  subst h9
  exact ⟨⟨by kernel_rfl, by kernel_rfl, by kernel_rfl, by kernel_rfl, by kernel_rfl, by kernel_rfl, by kernel_rfl⟩, (still_to (n := 8) (still_of (fun w => by kernel_rfl) (by kernel_rfl) (by kernel_rfl)) (by kernel_rfl))⟩
end
end Ev
end Go.Proofs.YtbkjjknlphlhlaaDoor
