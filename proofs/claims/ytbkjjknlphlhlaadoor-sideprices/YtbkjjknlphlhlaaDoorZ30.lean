/- The main in each: into handOut, behind it: the close, the Wait, the answer. -/
import Derived.Laws.MakeOwn
import Derived.Conc.AppendWalk
import Derived.Orders
import Derived.Conc.CompanyDraw
import Derived.Test.YtbkjjknlphlhlaaDoorZ29
namespace Go.Proofs.YtbkjjknlphlhlaaDoor
namespace Ev
open Go.Conc Go.ConcN
open Go.ConcR (KK WgAt stA smA rd wr mk)
set_option maxRecDepth 100000
def makeOf (g : Goroutine) : Option (TypeId × Value × Value) := match curOp g with
  | some { op := .makeSlice t x y .., .. } => some (t, g.frame.eval x, g.frame.eval y)
  | _ => none
def closeOf (g : Goroutine) : Option (Array Value) := match curOp g with
  | some { op := .call { callee := .builtin .close, args, .. }, .. } => some (args.map g.frame.eval)
  | _ => none
def topC (g : Goroutine) : Frame := match g.callers with
  | f :: _ => f
  | [] => default
section
variable (c : Frame) (cs : List Frame) (Wg : Nat) (b3 b5 b7 b8 : Addr) (k : Int) (V : Array Value) (tp : Option Addr) (n cp cn cd : Nat) (bl : Nat)
/-- Its frame while handOut goes. -/
noncomputable def fB : Frame := topC (NH c cs V tp n cp cn cd)
/-- .. at its load of the channel, the list having come. -/
noncomputable def PL : Goroutine := adv Tryd.prog true 4 (G ((fB c cs V tp n cp cn cd).finish (.slice (some ⟨bl, 0, none⟩) n n)) (c :: cs))
/-- .. at the close. -/
noncomputable def PC : Goroutine := fin (PL c cs V tp n cp cn cd bl) (.chan (some cn))
noncomputable def PD : Goroutine := fin (PC c cs V tp n cp cn cd bl) (.tuple #[])
/-- Its frame while Wait goes. -/
noncomputable def fC : Frame := topC (adv Tryd.prog true 4 (PD c cs V tp n cp cn cd bl))
variable (hV : VT Wg b3 b5 b7 b8 k V)
 include hV
theorem p_all (h15 : V[15]? = some (.bool false)) : (∃ U, NH c cs V tp n cp cn cd = YM (fB c cs V tp n cp cn cd) c cs U ∧ U.size = 37 ∧ U[0]? = some (.int .i64 n) ∧ U[1]? = some (.chan (some cn)) ∧ U[2]? = some (.chan (some cd))) ∧
    (NH c cs V tp n cp cn cd).status = .running ∧ makeOf (NH c cs V tp n cp cn cd) = some (52, .int .i64 n, .int .i64 n) ∧ (NH c cs V tp n cp cn cd).frame.fn = 35 := by
  obtain ⟨v0, v1, v2, v3, v4, v5, v6, v7, v8, v9, v10, v11, v12, v13, v14, v15, v16, v17, v18, v19, v20, v21, v22, v23, v24, v25, v26, rfl⟩ := array27 V hV.size
  have h1 := hV.a1; have h3 := hV.a3; have h5 := hV.a5; have h7 := hV.a7; have h8 := hV.a8; have h9 := hV.a9
  simp only [List.getElem?_toArray, List.getElem?_cons_succ, List.getElem?_cons_zero, Option.some.injEq] at h1 h3 h5 h7 h8 h9
  subst h1; subst h3; subst h5; subst h7; subst h8; subst h9
  simp only [List.getElem?_toArray, List.getElem?_cons_succ, List.getElem?_cons_zero, Option.some.injEq] at h15
  subst h15
  refine ⟨⟨(NH c cs #[v0, .int .i64 k, v2, .pointer (some b3), v4, .pointer (some b5), v6, .pointer (some b7), .pointer (some b8), .pointer (some ⟨Wg, 0, none⟩), v10, v11, v12, v13, v14, .bool false, v16, v17, v18, v19, v20, v21, v22, v23, v24, v25, v26] tp n cp cn cd).frame.tmps, ?_, ?_, ?_, ?_, ?_⟩, ?_, ?_, ?_⟩
  all_goals kernel_rfl
theorem p_back (h15 : V[15]? = some (.bool false)) : Still Tryd.prog true 4 (G ((fB c cs V tp n cp cn cd).finish (.slice (some ⟨bl, 0, none⟩) n n)) (c :: cs)) (PL c cs V tp n cp cn cd bl) ∧ (PL c cs V tp n cp cn cd bl).status = .running ∧ loadOf (PL c cs V tp n cp cn cd bl) = some (72, .pointer (some b7)) ∧ (PL c cs V tp n cp cn cd bl).frame.fn = 22 ∧
    (PC c cs V tp n cp cn cd bl).status = .running ∧ closeOf (PC c cs V tp n cp cn cd bl) = some #[.chan (some cn)] ∧ mayWake Tryd.prog (PC c cs V tp n cp cn cd bl) = true ∧ (PD c cs V tp n cp cn cd bl).status = .running ∧
    Still Tryd.prog true 4 (PD c cs V tp n cp cn cd bl) (W0 (fC c cs V tp n cp cn cd bl) (c :: cs) Wg) ∧ Still Tryd.prog true 8 (G ((fC c cs V tp n cp cn cd bl).finish (.tuple #[])) (c :: cs)) (G (c.finish (.slice (some ⟨bl, 0, none⟩) n n)) cs) := by
  obtain ⟨v0, v1, v2, v3, v4, v5, v6, v7, v8, v9, v10, v11, v12, v13, v14, v15, v16, v17, v18, v19, v20, v21, v22, v23, v24, v25, v26, rfl⟩ := array27 V hV.size
  have h1 := hV.a1; have h3 := hV.a3; have h5 := hV.a5; have h7 := hV.a7; have h8 := hV.a8; have h9 := hV.a9
  simp only [List.getElem?_toArray, List.getElem?_cons_succ, List.getElem?_cons_zero, Option.some.injEq] at h1 h3 h5 h7 h8 h9
  subst h1; subst h3; subst h5; subst h7; subst h8; subst h9
  simp only [List.getElem?_toArray, List.getElem?_cons_succ, List.getElem?_cons_zero, Option.some.injEq] at h15
  subst h15
  refine ⟨still_of (fun w => ?_) ?_ ?_, ?_, ?_, ?_, ?_, ?_, ?_, ?_, still_to (n := 4) (still_of (fun w => ?_) ?_ ?_) ?_, still_to (n := 8) (still_of (fun w => ?_) ?_ ?_) ?_⟩
  all_goals kernel_rfl
theorem p_fn (h15 : V[15]? = some (.bool false)) : (PC c cs V tp n cp cn cd bl).frame.fn = 22 := by
  obtain ⟨v0, v1, v2, v3, v4, v5, v6, v7, v8, v9, v10, v11, v12, v13, v14, v15, v16, v17, v18, v19, v20, v21, v22, v23, v24, v25, v26, rfl⟩ := array27 V hV.size
  have h1 := hV.a1; have h3 := hV.a3; have h5 := hV.a5; have h7 := hV.a7; have h8 := hV.a8; have h9 := hV.a9
  simp only [List.getElem?_toArray, List.getElem?_cons_succ, List.getElem?_cons_zero, Option.some.injEq] at h1 h3 h5 h7 h8 h9
  subst h1; subst h3; subst h5; subst h7; subst h8; subst h9
  simp only [List.getElem?_toArray, List.getElem?_cons_succ, List.getElem?_cons_zero, Option.some.injEq] at h15
  subst h15
  show (fin (adv Tryd.prog true 4 _) _).frame.fn = 22
  kernel_rfl
end
end Ev
end Go.Proofs.YtbkjjknlphlhlaaDoor
namespace Go.Proofs.YtbkjjknlphlhlaaDoor
namespace Ev
open Go.Conc
set_option maxRecDepth 100000
theorem type55 : ∃ i, Tryd.prog.info? 55 = some i ∧ i.zero = some (.agg #[.int .i64 0, .int .i64 0, .nilIface]) ∧ i.size = 3 ∧ i.bytes ≤ 1000 := by
  cases h : Tryd.prog.info? 55 with
  | none =>
    have : (Tryd.prog.info? 55).isSome = true := by kernel_rfl
    rw [h] at this; cases this
  | some i =>
    have h1 : ((Tryd.prog.info? 55).bind (·.zero)) = some (.agg #[.int .i64 0, .int .i64 0, .nilIface]) := by kernel_rfl
    have h2 : ((Tryd.prog.info? 55).map (·.size)) = some 3 := by kernel_rfl
    have h3 : ((Tryd.prog.info? 55).map fun i => decide (i.bytes ≤ 1000)) = some true := by kernel_rfl
    rw [h] at h1 h2 h3
    refine ⟨i, rfl, by simpa using h1, by simpa using h2, by simpa using h3⟩
def rows0 (n : Nat) : Obj := .cells (madeCells #[.int .i64 0, .int .i64 0, .nilIface] (n * 3)) 55
section
variable {main : Bool} {g : Goroutine} {w : World}
theorem make_rows {n : Nat} (h : makeOf g = some (52, .int .i64 n, .int .i64 n)) (hn : n ≤ 1000000) :
    stepG Tryd.prog main g w = .go (fin g (.slice (some ⟨w.heap.size, 0, none⟩) n n)) (w.alloc (rows0 n)) #[] := by
  unfold makeOf at h
  split at h
  · rename_i d t' x y ty ps af gd e
    simp only [Option.some.injEq, Prod.mk.injEq] at h
    obtain ⟨rfl, hx, hy⟩ := h
    obtain ⟨i, hi, hz, hs, hb⟩ := type55
    have ht : Tryd.prog.underlying 52 = some (.slice 55) := by kernel_rfl
    have hbn : (i.bytes : Int) * n ≤ 1000 * 1000000 := by
      have : i.bytes * n ≤ 1000 * 1000000 := Nat.mul_le_mul hb hn
      omega
    have hr : (Instr.makeSlice 52 (.int .i64 n) (.int .i64 n)).run Tryd.prog w = .ok (.slice (some ⟨w.heap.size, 0, none⟩) n n) (w.alloc (rows0 n)) := by
      have := run_makeSlice (w := w) 52 55 i _ ht hi hz .i64 .i64 n n (by omega) (Int.le_refl _) (by rw [hs]; simp only [Int.toNat_natCast]; omega) (by omega) (by omega)
      rw [this, hs]
      rfl
    have hroom : n * i.bytes ≤ 1000000 * 1000 := Nat.mul_le_mul hn hb
    have he : (Instr.makeSlice 52 (.int .i64 n) (.int .i64 n)).events Tryd.prog w #[] = #[] :=
      events_make w 52 55 i _ ht hi hz .i64 .i64 n n (by omega) (Int.le_refl _) (by omega) (by omega) (by simp only [Int.toNat_natCast]; omega) #[]
    have e2 : (execOp g.frame.eval { dst := d, op := .makeSlice 52 x y, type := ty, pos := ps, after := af, guard := gd }).events Tryd.prog w #[] = #[] := by
      unfold execOp; simp only [hx, hy]; simp [go_sem, he]
    rw [opv_step e (v := .slice (some ⟨w.heap.size, 0, none⟩) n n) (w' := w.alloc (rows0 n)) (by unfold execOp; simp only [hx, hy]; rw [Sem.run_bind, hr]; rfl), e2, seen_none]
  · cases h
theorem close_step {cn s r : Nat} (hq : (Tryd.prog.funcs[g.frame.fn]?).any (·.norace) = false) (h : closeOf g = some #[.chan (some cn)]) (hc : w.heap[cn]? = some (.chan 0 #[] false s r false)) :
    stepG Tryd.prog main g w = .go (fin g (.tuple #[])) { w with heap := w.heap.setIfInBounds cn (.chan 0 #[] true s r false) } #[⟨.obj cn, false, true⟩, ⟨.obj cn, true, true⟩] := by
  unfold closeOf at h
  split at h
  · rename_i d xs ats ty ps af gd e
    simp only [Option.some.injEq] at h
    have hr := run_close_open (P := Tryd.prog) ats ty hc
    have he := events_close_open (P := Tryd.prog) (es := #[]) ats ty hc
    have e1 : (execOp g.frame.eval { dst := d, op := .call { callee := .builtin .close, args := xs, argTypes := ats }, type := ty, pos := ps, after := af, guard := gd }).run Tryd.prog w = .ok (.value (.tuple #[])) { w with heap := w.heap.setIfInBounds cn (.chan 0 #[] true s r false) } := by
      unfold execOp
      simp only [resolve, invoke, builtin, Sem.run_bind, Sem.run_pure, Result.andThen_ok, h, hr]
    have e2 : (execOp g.frame.eval { dst := d, op := .call { callee := .builtin .close, args := xs, argTypes := ats }, type := ty, pos := ps, after := af, guard := gd }).events Tryd.prog w #[] = #[⟨.obj cn, false, true⟩, ⟨.obj cn, true, true⟩] := by
      unfold execOp
      simp only [resolve, invoke, builtin, Sem.events_bind, Sem.run_pure, Sem.events_pure, Result.evThen_ok, h, he, hr]
      rfl
    rw [opv_step e e1, e2, seen_eq hq (by simp)]
  · cases h
end
end Ev
end Go.Proofs.YtbkjjknlphlhlaaDoor
namespace Go.Proofs.YtbkjjknlphlhlaaDoor
namespace Mc
open Go.Conc Go.ConcN Hd Sim Wy Ev
open Go.ConcR (KK WgAt stA smA mk)
set_option maxRecDepth 100000
/-- The rows of what has been gathered. -/
def Rows (n : Nat) (gl : List Nat) (val : Vals) (bl : Nat) (w : World) : Prop := ∃ cur : Array Value, w.heap[bl]? = some (.cells cur 55 (0, 0)) ∧ cur.size = 3 * n ∧
  ∀ j, j ∈ gl → j < n → cur[3 * j]? = some (.int .i64 j) ∧ cur[3 * j + 1]? = some (val j).1 ∧ cur[3 * j + 2]? = some (val j).2
def key (bl : Nat) : Value × Value := (.pointer (some ⟨bl, 0, none⟩), .nilIface)
theorem Rows.rely {n : Nat} {gl : List Nat} {val : Vals} {bl : Nat} {w w1 : World} {A : Nat → Prop} (h : Rows n gl val bl w) (r : Rely A w w1) (hA : A bl) : Rows n gl val bl w1 := by
  obtain ⟨cur, h1, h2, h3⟩ := h
  exact ⟨cur, (r.keep bl hA).trans h1, h2, h3⟩
theorem Rows.val {n : Nat} {gl : List Nat} {val vl : Vals} {bl : Nat} {w : World} (h : Rows n gl val bl w) (hv : ∀ j, j < n → vl j = val j) : Rows n gl vl bl w := by
  obtain ⟨cur, h1, h2, h3⟩ := h
  exact ⟨cur, h1, h2, fun j a b => by rw [hv j b]; exact h3 j a b⟩
section
variable (E : Env) (c : Frame) (cs : List Frame) (b3 b5 b7 b8 : Addr) (k : Nat) (tp : Option Addr) (cp : Nat)
/-- At the select. -/
def SelW (next : Nat) (gl : List Nat) (val : Vals) : Stop := fun A M g w => ∃ V bl U nc, VT E.Wg b3 b5 b7 b8 k V ∧ V[15]? = some (.bool false) ∧ UT bl E.n E.n E.n nc E.cd next gl.length U ∧ U[19]? = some nc ∧ U[20]? = some (.int .i64 next) ∧ U[21]? = some (.chan (some E.cd)) ∧
  ((next < E.n ∧ nc = .chan (some E.cn)) ∨ (next = E.n ∧ nc = .chan none)) ∧ g = YS (fB c cs V tp E.n cp E.cn E.cd) c cs U ∧ A bl ∧ M bl ∧ Rows E.n gl val bl w
def LstW (gl : List Nat) (val : Vals) (A : Nat → Prop) (w : World) : Prop := ∃ bl, val E.n = key bl ∧ A bl ∧ Rows E.n gl val bl w
/-- The frame below Wait. -/
def CWW (val : Vals) (f : Frame) : Prop := ∃ V bl, VT E.Wg b3 b5 b7 b8 k V ∧ V[15]? = some (.bool false) ∧ val E.n = key bl ∧ f = fC c cs V tp E.n cp E.cn E.cd bl
def FamW : Fam where
  Recv := RecvW E b3 b5 b7 b8
  Sel := SelW E c cs b3 b5 b7 b8 k tp cp
  Ld := LdW E (CWW E c cs b3 b5 b7 b8 k tp cp) (c :: cs)
  Fin := FinW (CWW E c cs b3 b5 b7 b8 k tp cp) (c :: cs)
  Lst := LstW E
  z0 := .int .i64 0
  z5 := .agg #[.int .i64 0, .int .i64 0, .nilIface]
  zs := .tuple #[]
  sh := .select
  kw := k
end
section
variable {E : Env} {F : Fam} {next : Nat} {gl : List Nat} {val : Vals} {A M : Nat → Prop} {g : Goroutine} {w : World}
theorem way_go {P : Program} {main : Bool} {I : World → Prop} {X : Event → Prop} {S : Stop} (hs : g.status = .running) (h : ∀ w1, Rely A w w1 → I w1 → ∃ g' w' es, stepG P main g w1 = .go g' w' es ∧ GuarX X A M w1 w' es ∧ Wy.Way P main I X S (fresh w1 w' A) (fresh w1 w' M) g' w') : Wy.Way P main I X S A M g w :=
  .step hs (fun w1 r i => let ⟨g', w', es, a, b, _⟩ := h w1 r i; ⟨g', w', es, a, b⟩) fun w1 g' w' es r i e => by
    obtain ⟨g2, w2, es2, a, _, b⟩ := h w1 r i
    rw [a] at e
    cases e
    exact b
theorem After.go (hs : g.status = .running) (h : ∀ w1, Rely A w w1 → Kn E w1 → ∃ g' w' es, stepG Tryd.prog true g w1 = .go g' w' es ∧ GuarX (XE E true) A M w1 w' es ∧ After Tryd.prog E F next gl val (fresh w1 w' A) (fresh w1 w' M) g' w') : After Tryd.prog E F next gl val A M g w := by
  unfold After
  split
  · rename_i e
    refine way_go hs fun w1 r i => ?_
    obtain ⟨g', w', es, a, b, d⟩ := h w1 r i
    unfold After at d; rw [if_pos e] at d
    exact ⟨g', w', es, a, b, d⟩
  · rename_i e
    refine way_go hs fun w1 r i => ?_
    obtain ⟨g', w', es, a, b, d⟩ := h w1 r i
    unfold After at d; rw [if_neg e] at d
    exact ⟨g', w', es, a, b, d⟩
/-- A block is made. -/
theorem guar_alloc (o : Obj) : GuarX (XE E true) A M w (w.alloc o) #[] :=
  ⟨fun b hb _ => by show (w.heap.push o)[b]? = _; rw [Array.getElem?_push_lt hb, Array.getElem?_eq_getElem hb], by show _ ≤ (w.heap.push o).size; simp, rfl, Nat.le_refl _, rfl, rfl, by simp⟩
theorem alloc_at (o : Obj) : (w.alloc o).heap[w.heap.size]? = some o := by show (w.heap.push o)[_]? = _; simp
theorem alloc_lt (o : Obj) {b : Nat} (hb : b < w.heap.size) : (w.alloc o).heap[b]? = w.heap[b]? := by show (w.heap.push o)[_]? = _; rw [Array.getElem?_push_lt hb, Array.getElem?_eq_getElem hb]
end
section
variable {E : Env} {c : Frame} {cs : List Frame} {b3 b5 b7 b8 : Addr} {k : Nat} {tp : Option Addr} {cp : Nat} (h7 : Holds1 E b7 (.chan (some E.cn))) {val : Vals} {A M : Nat → Prop} {w : World} {V : Array Value} {bl : Nat} {next : Nat} {gl : List Nat}
  (hV : VT E.Wg b3 b5 b7 b8 k V) (h15 : V[15]? = some (.bool false)) (hA : A bl) (hM : M bl) (hRows : Rows E.n gl val bl w)
 include h7 hV h15 hA hRows
/-- All is gathered: to the close. -/
theorem way_close {U : Array Value} {nc : Value} (hU : UT bl E.n E.n E.n nc E.cd next gl.length U) (h15' : U[15]? = some (.bool false)) : WayE Tryd.prog E true (SClo Tryd.prog E (FamW E c cs b3 b5 b7 b8 k tp cp) gl val) A M (YC (fB c cs V tp E.n cp E.cn E.cd) c cs U) w := by
  obtain ⟨p1, p2, p3, p4, p5, p6, p7, p8, p9, p10⟩ := p_back c cs E.Wg b3 b5 b7 b8 k V tp E.n cp E.cn E.cd bl hV h15
  refine Way.idle (still_idle (y_end _ c cs bl E.n E.n E.n nc E.cd next gl.length U hU h15')) (Way.idle (still_idle p1) (Way.idle (load_idle h7 p3 p2 (fun w => by kernel_rfl) (fun w => by kernel_rfl) (by rw [p4]; kernel_rfl)) (.stop fun w1 r hk => ?_)))
  have hfn := p_fn c cs E.Wg b3 b5 b7 b8 k V tp E.n cp E.cn E.cd bl hV h15
  have hno : (Tryd.prog.funcs[(PC c cs V tp E.n cp E.cn E.cd bl).frame.fn]?).any (·.norace) = false := by rw [hfn]; kernel_rfl
  let vl : Vals := fun j => if j = E.n then key bl else val j
  have hvl : ∀ j, j < E.n → vl j = val j := fun j hj => if_neg (by omega)
  have hkey : vl E.n = key bl := if_pos rfl
  have hL : LstW E gl vl A w1 := ⟨bl, hkey, hA, (hRows.rely r hA).val hvl⟩
  have hCW : CWW E c cs b3 b5 b7 b8 k tp cp vl (fC c cs V tp E.n cp E.cn E.cd bl) := ⟨V, bl, hV, h15, hkey, rfl⟩
  have hclo : ∀ (w : World) (s r : Nat), Kn E w → w.heap[E.cn]? = some (.chan 0 #[] false s r false) → stepG Tryd.prog true (PC c cs V tp E.n cp E.cn E.cd bl) w = .go (PD c cs V tp E.n cp E.cn E.cd bl) (shut E w s r) #[⟨.obj E.cn, false, true⟩, ⟨.obj E.cn, true, true⟩] := fun w s r _ hc => close_step hno p6 hc
  have hon : ∀ w, WayE Tryd.prog E true (SWd Tryd.prog E (FamW E c cs b3 b5 b7 b8 k tp cp) vl) no no (PD c cs V tp E.n cp E.cn E.cd bl) w := fun w =>
    Way.idle (still_idle p9) (way_wait (F := FamW E c cs b3 b5 b7 b8 k tp cp) (CW := CWW E c cs b3 b5 b7 b8 k tp cp) rfl hCW w)
  exact ⟨vl, hvl, hL, p5, p7, _, p8, hclo, fun w _ => hon w⟩
 include hM
/-- At the loop's test: to the select, or on. -/
theorem to_sel {U : Array Value} {nc : Value} (hU : UT bl E.n E.n E.n nc E.cd next gl.length U) (hle : next ≤ E.n) (hgl : gl.length ≤ E.n) (hnc : nc = .chan (some E.cn) ∨ (next = E.n ∧ nc = .chan none)) : After Tryd.prog E (FamW E c cs b3 b5 b7 b8 k tp cp) next gl val A M (YB (fB c cs V tp E.n cp E.cn E.cd) c cs U) w := by
  obtain ⟨U2, hU2, h15a, st⟩ := y_test (fB c cs V tp E.n cp E.cn E.cd) c cs bl E.n E.n E.n nc E.cd next gl.length U hU
  refine After.idle (still_idle st) ?_
  unfold After
  by_cases hg : gl.length = E.n
  · rw [if_pos hg]
    have : decide ((gl.length : Int) < E.n) = false := by simp [hg]
    rw [this] at h15a
    exact way_close h7 hV h15 hA hRows hU2 h15a
  · rw [if_neg hg]
    have : decide ((gl.length : Int) < E.n) = true := by simp; omega
    rw [this] at h15a
    obtain ⟨U3, hU3, h18, st3⟩ := y_test2 (fB c cs V tp E.n cp E.cn E.cd) c cs bl E.n E.n E.n nc E.cd next gl.length U2 hU2 h15a
    refine Way.idle (still_idle st3) ?_
    by_cases hn : next = E.n
    · have : ((next : Int) == (E.n : Int)) = true := by simp [hn]
      rw [this] at h18
      obtain ⟨U4, hU4, h19, h20, h21, st4⟩ := y_none (fB c cs V tp E.n cp E.cn E.cd) c cs bl E.n E.n E.n nc E.cd next gl.length U3 hU3 h18
      exact Way.idle (still_idle st4) (.stop fun w1 r hk => ⟨V, bl, U4, _, hV, h15, hU4, h19, h20, h21, .inr ⟨hn, rfl⟩, rfl, hA, hM, hRows.rely r hA⟩)
    · have : ((next : Int) == (E.n : Int)) = false := by simp; omega
      rw [this] at h18
      obtain ⟨U4, hU4, h19, h20, h21, st4⟩ := y_some (fB c cs V tp E.n cp E.cn E.cd) c cs bl E.n E.n E.n nc E.cd next gl.length U3 hU3 h18
      have hc : nc = .chan (some E.cn) := hnc.resolve_right fun h => hn h.1
      exact Way.idle (still_idle st4) (.stop fun w1 r hk => ⟨V, bl, U4, _, hV, h15, hU4, h19, h20, h21, .inl ⟨by omega, hc⟩, rfl, hA, hM, hRows.rely r hA⟩)
end
end Mc
end Go.Proofs.YtbkjjknlphlhlaaDoor
namespace Go.Proofs.YtbkjjknlphlhlaaDoor
namespace Mc
open Go.Conc Go.ConcN Hd Sim Wy Ev
open Go.ConcR (KK WgAt stA smA mk)
set_option maxRecDepth 100000
section
variable {E : Env} {A M : Nat → Prop} {w w' : World}
theorem setCells_same (b : Nat) : ∀ (vs : List Value) (o : Nat) (w : World), (w.setCells b o vs).heap.size = w.heap.size ∧ (w.setCells b o vs).tape = w.tape ∧ (w.setCells b o vs).drawn = w.drawn ∧ (w.setCells b o vs).os = w.os ∧ (w.setCells b o vs).output = w.output ∧ ∀ x, x ≠ b → (w.setCells b o vs).heap[x]? = w.heap[x]?
  | [], o, w => ⟨rfl, rfl, rfl, rfl, rfl, fun _ _ => rfl⟩
  | v :: vs, o, w => by
    obtain ⟨h1, h2, h3, h4, h5, h6⟩ := setCells_same b vs (o + 1) (w.setCell ⟨b, o, none⟩ v)
    exact ⟨h1.trans (by simp [World.setCell]), h2, h3, h4, h5, fun x hx => (h6 x hx).trans (heap_setCell_other w _ x v hx)⟩
theorem fresh_eq (h : w'.heap.size = w.heap.size) : fresh w w' A = A := by
  funext b
  exact propext ⟨fun x => x.elim id fun y => by omega, fun x => .inl x⟩
theorem guar_cells {b o : Nat} {vs : List Value} {es : Array Event} (hA : A b) (hM : M b) (he : ∀ e ∈ es, ∃ ad : Addr, e = ⟨.cell ad, true, false⟩ ∧ ad.block = b) : GuarX (XE E true) A M w (w.setCells b o vs) es := by
  obtain ⟨h1, h2, h3, h4, h5, h6⟩ := setCells_same b vs o w
  refine ⟨fun x _ hx => h6 x fun e => hx (e ▸ hM), Nat.le_of_eq h1.symm, h2, Nat.le_of_eq h3.symm, h4, h5, fun e hm => .inl (.inl ?_)⟩
  obtain ⟨ad, rfl, hb⟩ := he e hm
  exact ⟨ad, rfl, rfl, .inl (hb ▸ hA), fun _ => .inl (hb ▸ hM)⟩
theorem guar_read {es : Array Event} (he : ∀ e ∈ es, ∃ ad : Addr, e = ⟨.cell ad, false, false⟩ ∧ A ad.block) : GuarX (XE E true) A M w w es := by
  refine ⟨fun _ _ _ => rfl, Nat.le_refl _, rfl, Nat.le_refl _, rfl, rfl, fun e hm => .inl (.inl ?_)⟩
  obtain ⟨ad, rfl, hb⟩ := he e hm
  exact ⟨ad, rfl, rfl, .inl hb, fun h => by cases h⟩
end
section
variable {E : Env} {c : Frame} {cs : List Frame} {b3 b5 b7 b8 : Addr} {k : Nat} {tp : Option Addr} {cp : Nat} (h7 : Holds1 E b7 (.chan (some E.cn))) (hn : E.n ≤ 1000000)
theorem selW_is (next : Nat) (gl : List Nat) (val : Vals) (A M : Nat → Prop) (g : Goroutine) (w : World) (h : SelW E c cs b3 b5 b7 b8 k tp cp next gl val A M g w) : g.status = .running ∧ ∀ w, Kn E w → stepG Tryd.prog true g w = .comm g (selCases E (FamW E c cs b3 b5 b7 b8 k tp cp) next) true .select w #[] := by
  obtain ⟨V, bl, U, nc, hV, h15, hU, h19, h20, h21, hnc, rfl, hA, hM, hR⟩ := h
  obtain ⟨a, b⟩ := y_sel (fB c cs V tp E.n cp E.cn E.cd) c cs bl E.n E.n E.n nc E.cd next gl.length U hU (v := nc) (hnc.elim (fun h => .inr ⟨_, h.2⟩) fun h => .inl h.2) h19 h20 h21
  refine ⟨a, fun w _ => ?_⟩
  have e : selCases E (FamW E c cs b3 b5 b7 b8 k tp cp) next = #[{ chan := nc, send := some (.int .i64 next), zero := .int .i64 0 }, rcase E.cd (.agg #[.int .i64 0, .int .i64 0, .nilIface])] := by
    unfold selCases
    rcases hnc with ⟨h1, h2⟩ | ⟨h1, h2⟩
    · rw [if_pos h1, h2]; rfl
    · rw [if_neg (by omega), h2]; rfl
  rw [e]
  exact b w
 include h7 hn
theorem selW_send (next : Nat) (gl : List Nat) (val : Vals) (A M : Nat → Prop) (g : Goroutine) (w : World) (h : SelW E c cs b3 b5 b7 b8 k tp cp next gl val A M g w) (hx : next < E.n) (hg : gl.length < E.n) (w1 : World) (r : Rely A w w1) (_ : Kn E w1) :
    WayE Tryd.prog E true (SelW E c cs b3 b5 b7 b8 k tp cp (next + 1) gl val) A M (g.finishComm Tryd.prog (selCases E (FamW E c cs b3 b5 b7 b8 k tp cp) next) .select 0 undef false) w1 := by
  obtain ⟨V, bl, U, nc, hV, h15, hU, h19, h20, h21, hnc, rfl, hA, hM, hR⟩ := h
  have e : selCases E (FamW E c cs b3 b5 b7 b8 k tp cp) next = #[scase E.cn (.int .i64 next) (.int .i64 0), rcase E.cd (.agg #[.int .i64 0, .int .i64 0, .nilIface])] := by
    unfold selCases
    rw [if_pos hx]; rfl
  rw [e]
  obtain ⟨U2, hU2, st⟩ := y_gone (fB c cs V tp E.n cp E.cn E.cd) c cs bl E.n E.n E.n nc E.cd next gl.length U hU (c0 := scase E.cn (.int .i64 next) (.int .i64 0)) rfl
  have hw : IntKind.i64.wrap ((next : Int) + 1) = ((next + 1 : Nat) : Int) := by rw [wrap_small _ (by omega) (by omega)]; omega
  rw [hw] at hU2
  have hc : nc = .chan (some E.cn) := hnc.elim (·.2) fun h => by omega
  have := to_sel (E := E) (c := c) (cs := cs) (tp := tp) (cp := cp) (w := w1) (next := next + 1) h7 hV h15 hA hM (hR.rely r hA) hU2 (by omega) (by omega) (.inl hc)
  unfold After at this
  rw [if_neg (by omega)] at this
  exact Way.idle (still_idle st) (Way.idle (still_idle (y_loop _ c cs bl E.n E.n E.n nc E.cd _ gl.length U2 hU2)) this)
 omit hn in
/-- From the variable's store on. -/
theorem gathered {next : Nat} {gl : List Nat} {val : Vals} {A M : Nat → Prop} {w3 : World} {V : Array Value} (hV : VT E.Wg b3 b5 b7 b8 k V) (h15 : V[15]? = some (.bool false)) {bl : Nat} {U : Array Value} {nc : Value} (hU : UT bl E.n E.n E.n nc E.cd next gl.length U) (hle : next ≤ E.n) (hg : gl.length < E.n)
    {i : Nat} {a e : Value} (hi : i < E.n) (ha : a.oneCell' = true) (he : e.oneCell' = true) (hnc : (next < E.n ∧ nc = .chan (some E.cn)) ∨ (next = E.n ∧ nc = .chan none)) (hw : IntKind.i64.wrap ((gl.length : Int) + 1) = (((i :: gl).length : Nat) : Int)) {m : Nat} (hAm : A m) (hMm : M m) (hAb : A bl) (hMb : M bl) (hne : bl ≠ m)
    (hm0 : w3.heap[m]? = some zrow) {cur : Array Value} (hb0 : w3.heap[bl]? = some (.cells cur 55 (0, 0))) (hsz : cur.size = 3 * E.n) (hrow : ∀ j, j ∈ gl → j < E.n → cur[3 * j]? = some (.int .i64 j) ∧ cur[3 * j + 1]? = some (val j).1 ∧ cur[3 * j + 2]? = some (val j).2) :
    After Tryd.prog E (FamW E c cs b3 b5 b7 b8 k tp cp) next (i :: gl) (fun j => if j = i then (a, e) else val j) A M (K2 (fB c cs V tp E.n cp E.cn E.cd) c cs E.cd U nc (.int .i64 next) i a e m) w3 := by
  obtain ⟨_, _, _, q4, q5, q6, q7, q8, q9, q10, q11⟩ := k_all (fB c cs V tp E.n cp E.cn E.cd) c cs bl E.n E.n E.n nc E.cd next gl.length U nc (.int .i64 next) i a e m hU
  obtain ⟨r1, r2, r3, r4⟩ := k_more (fB c cs V tp E.n cp E.cn E.cd) c cs bl E.n E.n E.n nc E.cd next gl.length U nc (.int .i64 next) i a e m (3 * i) hU
  obtain ⟨t1, t2⟩ := k_back (fB c cs V tp E.n cp E.cn E.cd) c cs bl E.n E.n E.n nc E.cd next gl.length U nc (.int .i64 next) i a e m (3 * i) hU
  rw [hw] at t1
  -- the store into the variable
  refine After.go q4 fun w4 l4 k4 => ?_
  obtain ⟨es, s1, s2⟩ := store_row (main := true) (w := w4) q5 ((l4.keep m hAm).trans hm0) (by simp) rfl ha he
  refine ⟨_, _, es, s1, guar_cells hAm hMm s2, ?_⟩
  have c1 := setCells_same m [.int .i64 i, a, e] 0 w4
  rw [fresh_eq c1.1, fresh_eq c1.1]
  have hm5 := heap_row (w := w4) (x := .int .i64 i) (y := a) (z := e) (o := 0) ((l4.keep m hAm).trans hm0)
  have hb5 := (c1.2.2.2.2.2 bl hne).trans ((l4.keep bl hAb).trans hb0)
  generalize w4.setCells m 0 [.int .i64 i, a, e] = w5 at hm5 hb5
  refine After.idle (still_idle q6) (After.go q7 fun w6 l6 k6 => ?_)
  have hm6 := (l6.keep m hAm).trans hm5
  have hb6 := (l6.keep bl hAb).trans hb5
  have ld : stepG Tryd.prog true (K3 (fB c cs V tp E.n cp E.cn E.cd) c cs E.cd U nc (.int .i64 next) i a e m) w6 = .go (K4 (fB c cs V tp E.n cp E.cn E.cd) c cs E.cd U nc (.int .i64 next) i a e m) w6 #[⟨.cell ⟨m, 0, none⟩, false, false⟩] :=
    load_one q8 (fun w => by kernel_rfl) (fun w => by kernel_rfl) (by simp [World.cell?, hm6]) q9
  refine ⟨_, _, _, ld, guar_read fun ev hev => ⟨_, by simpa using hev, hAm⟩, ?_⟩
  rw [Ev.fresh_self, Ev.fresh_self]
  refine After.go q10 fun w7 l7 k7 => ?_
  have hm7 := (l7.keep m hAm).trans hm6
  have hb7 := (l7.keep bl hAb).trans hb6
  obtain ⟨es7, u1, u2⟩ := load_row (main := true) (w := w7) (x := .int .i64 i) (y := a) (z := e) q11 (fun j v hj => by
    match j, hj with
    | 0, hj => cases hj; simp [World.cell?, hm7]
    | 1, hj => cases hj; simp [World.cell?, hm7]
    | 2, hj => cases hj; simp [World.cell?, hm7])
  refine ⟨_, _, es7, u1, guar_read fun ev hev => let ⟨ad, h1, h2⟩ := u2 ev hev; ⟨ad, h1, h2 ▸ hAm⟩, ?_⟩
  rw [Ev.fresh_self, Ev.fresh_self]
  refine After.go r1 fun w8 l8 k8 => ⟨_, _, _, index_row r2 hi, .still (by simp), ?_⟩
  have hb8 := (l8.keep bl hAb).trans hb7
  rw [Ev.fresh_self, Ev.fresh_self]
  refine After.go r3 fun w9 l9 k9 => ?_
  have hb9 := (l9.keep bl hAb).trans hb8
  obtain ⟨es9, v1, v2⟩ := store_row (main := true) (w := w9) r4 hb9 (by omega) rfl ha he
  refine ⟨_, _, es9, v1, guar_cells hAb hMb v2, ?_⟩
  have c9 := setCells_same bl [.int .i64 i, a, e] (3 * i) w9
  rw [fresh_eq c9.1, fresh_eq c9.1]
  have hbN := heap_row (w := w9) (x := .int .i64 i) (y := a) (z := e) (o := 3 * i) hb9
  generalize w9.setCells bl (3 * i) [.int .i64 i, a, e] = wN at hbN
  refine After.idle (still_idle t2) (After.idle (still_idle (y_loop _ c cs bl E.n E.n E.n nc E.cd next _ _ t1)) ?_)
  refine to_sel h7 hV h15 hAb hMb ⟨_, hbN, by simp [hsz], fun j hj hjn => ?_⟩ t1 hle (by simp; omega) (hnc.imp (·.2) id)
  by_cases hji : j = i
  · subst hji
    simp only [if_true]
    refine ⟨?_, ?_, ?_⟩
    · rw [Array.getElem?_setIfInBounds_ne (by omega), Array.getElem?_setIfInBounds_ne (by omega), Array.getElem?_setIfInBounds_self_of_lt (by omega)]
    · rw [Array.getElem?_setIfInBounds_ne (by omega), Array.getElem?_setIfInBounds_self_of_lt (by simp; omega)]
    · rw [Array.getElem?_setIfInBounds_self_of_lt (by simp; omega)]
  · simp only [if_neg hji]
    obtain ⟨x1, x2, x3⟩ := hrow j ((List.mem_cons.1 hj).resolve_left hji) hjn
    refine ⟨?_, ?_, ?_⟩
    · rw [Array.getElem?_setIfInBounds_ne (by omega), Array.getElem?_setIfInBounds_ne (by omega), Array.getElem?_setIfInBounds_ne (by omega)]; exact x1
    · rw [Array.getElem?_setIfInBounds_ne (by omega), Array.getElem?_setIfInBounds_ne (by omega), Array.getElem?_setIfInBounds_ne (by omega)]; exact x2
    · rw [Array.getElem?_setIfInBounds_ne (by omega), Array.getElem?_setIfInBounds_ne (by omega), Array.getElem?_setIfInBounds_ne (by omega)]; exact x3
theorem selW_recv (next : Nat) (gl : List Nat) (val : Vals) (A M : Nat → Prop) (g : Goroutine) (w : World) (h : SelW E c cs b3 b5 b7 b8 k tp cp next gl val A M g w) (hg : gl.length < E.n) (i : Nat) (a e : Value) (hi : i < E.n) (ha : a.oneCell' = true) (he : e.oneCell' = true) (w1 : World) (r : Rely A w w1) (_ : Kn E w1) :
    After Tryd.prog E (FamW E c cs b3 b5 b7 b8 k tp cp) next (i :: gl) (fun j => if j = i then (a, e) else val j) A M (g.finishComm Tryd.prog (selCases E (FamW E c cs b3 b5 b7 b8 k tp cp) next) .select 1 (Made i a e) true) w1 := by
  obtain ⟨V, bl, U, nc, hV, h15, hU, h19, h20, h21, hnc, rfl, hA, hM, hR⟩ := h
  have hR := hR.rely r hA
  have hle : next ≤ E.n := hnc.elim (fun h => Nat.le_of_lt h.1) fun h => Nat.le_of_eq h.1
  have e1 : selCases E (FamW E c cs b3 b5 b7 b8 k tp cp) next = #[⟨nc, some (.int .i64 next), .int .i64 0⟩, rcase E.cd (.agg #[.int .i64 0, .int .i64 0, .nilIface])] := by
    unfold selCases
    rcases hnc with ⟨h1, h2⟩ | ⟨h1, h2⟩
    · rw [if_pos h1, h2]; rfl
    · rw [if_neg (by omega), h2]; rfl
  rw [e1]
  let d := fB c cs V tp E.n cp E.cn E.cd
  have hw : IntKind.i64.wrap ((gl.length : Int) + 1) = (((i :: gl).length : Nat) : Int) := by rw [wrap_small _ (by omega) (by omega)]; simp
  have K := fun m => k_all d c cs bl E.n E.n E.n nc E.cd next gl.length U nc (.int .i64 next) i a e m hU
  refine After.idle (still_idle (K 0).1) (After.go (K 0).2.1 fun w2 r2 hk2 => ?_)
  have hR2 := hR.rely r2 hA
  obtain ⟨cur, hb, hsz, hrow⟩ := hR2
  have hbl : bl < w2.heap.size := (Array.getElem?_eq_some_iff.1 hb).1
  let m := w2.heap.size
  refine ⟨_, _, _, alloc_row (K 0).2.2.1, guar_alloc _, ?_⟩
  have hm0 : (w2.alloc zrow).heap[m]? = some zrow := alloc_at _
  have hsm : m < (w2.alloc zrow).heap.size := (Array.getElem?_eq_some_iff.1 hm0).1
  have hb0 : (w2.alloc zrow).heap[bl]? = some (.cells cur 55 (0, 0)) := (alloc_lt _ hbl).trans hb
  exact gathered h7 hV h15 hU hle hg hi ha he hnc hw (.inr ⟨Nat.le_refl _, hsm⟩) (.inr ⟨Nat.le_refl _, hsm⟩) (.inl hA) (.inl hM) (show bl ≠ m by omega) hm0 hb0 hsz hrow
end
end Mc
end Go.Proofs.YtbkjjknlphlhlaaDoor
namespace Go.Proofs.YtbkjjknlphlhlaaDoor
namespace Wy
open Go.Conc Sim
set_option maxRecDepth 100000
section
variable (P : Program) (main : Bool) (I : World → Prop) (X : Event → Prop) (S : (Nat → Prop) → (Nat → Prop) → Goroutine → World → Prop) (md : Region.Mode) (ops : Array Oper) (b : Frame) (k : List Item) (cs : List Frame)
abbrev WayAt (l : List Nat) (A M : Nat → Prop) (a : Act) (w : World) : Prop := Way P main I X S A M (G (b.at a (.inRegion ops l :: k)) cs) w
/-- Whatever comes up next: it goes, and leaves what is asked of the rest. -/
def WayAny : Nat → Array Bool → (Nat → Prop) → (Nat → Prop) → Act → World → Prop
  | 0, listed, A, M, a, w => Region.ready md ops listed = [] ∧ WayAt P main I X S ops b k cs [] A M a w
  | fuel + 1, listed, A, M, a, w => (Region.ready md ops listed = [] → WayAt P main I X S ops b k cs [] A M a w) ∧
    ∀ i ∈ Region.ready md ops listed, ∀ rest, (∀ A M a w, WayAny fuel (listed.setIfInBounds i true) A M a w → WayAt P main I X S ops b k cs rest A M a w) → WayAt P main I X S ops b k cs (i :: rest) A M a w
end
section
variable {P : Program} {main : Bool} {I : World → Prop} {X : Event → Prop} {S : (Nat → Prop) → (Nat → Prop) → Goroutine → World → Prop} {md : Region.Mode} {ops : Array Oper} {b : Frame} {k : List Item} {cs : List Frame}
theorem wayAny_sound : ∀ (fuel t : Nat) (listed : Array Bool) (A M : Nat → Prop) (a : Act) (w : World), WayAny P main I X S md ops b k cs fuel listed A M a w →
    WayAt P main I X S ops b k cs (Region.linearise.go md ops fuel t listed []) A M a w := by
  intro fuel
  induction fuel with
  | zero => intro t listed A M a w h; simpa [Region.linearise.go] using h.2
  | succ fuel ih =>
    intro t listed A M a w h
    obtain ⟨h0, h1⟩ := h
    simp only [Region.linearise.go]
    change WayAt P main I X S ops b k cs (match (Region.ready md ops listed)[t % (Region.ready md ops listed).length]? with
      | some i => Region.linearise.go md ops fuel (t / (Region.ready md ops listed).length) (listed.setIfInBounds i true) [i]
      | none => [].reverse) A M a w
    cases hi : (Region.ready md ops listed)[t % (Region.ready md ops listed).length]? with
    | none =>
      have hnil : Region.ready md ops listed = [] := by
        cases hr : Region.ready md ops listed with
        | nil => rfl
        | cons x xs =>
          rw [hr] at hi
          have hlt : t % (x :: xs).length < (x :: xs).length := Nat.mod_lt _ (by simp)
          simp at hi
          simp at hlt
          omega
      simpa using h0 hnil
    | some i =>
      simp only []
      rw [linearise_go_acc, List.reverse_singleton, List.singleton_append]
      exact h1 i (List.mem_of_getElem? hi) _ fun A M a w => ih _ _ A M a w
/-- ████ -/
theorem way_region_any {id : Nat} {A M : Nat → Prop} {a : Act} {w : World} (hm : P.follows .mixedOrders = true) (h : ∀ w1, Rely A w w1 → I w1 → WayAny P main I X S .any ops b k cs ops.size (Array.replicate ops.size false) A M a { w1 with drawn := w1.drawn + 1 }) :
    Way P main I X S A M (G (b.at a (.code (.region id ops true) :: k)) cs) w :=
  Mc.way_go rfl fun w1 r i => by
    have e := stepG_region_draw (P := P) (main := main) (ops := ops) (b := b) (a := a) (k := k) (cs := cs) (w := w1) (id := id)
    refine ⟨_, _, _, e, ⟨fun _ _ _ => rfl, Nat.le_refl _, rfl, Nat.le_succ _, rfl, rfl, by simp⟩, ?_⟩
    rw [Mc.fresh_eq (w := w1) (w' := { w1 with drawn := w1.drawn + 1 }) (A := A) rfl, Mc.fresh_eq (w := w1) (w' := { w1 with drawn := w1.drawn + 1 }) (A := M) rfl]
    simp only [Region.schedule, hm, Bool.true_or, if_true]
    exact wayAny_sound ops.size _ _ A M a _ (h w1 r i)
/-- An operation that yields a value. -/
theorem way_value {i : Nat} {rest : List Nat} {o : Oper} {A M : Nat → Prop} {a : Act} {w : World} (ho : ops[i]? = some o) (hw : Region.wanted o (yielded ops a.tmps) = true) (hk : b.kind ≠ .early)
    (h : ∀ w1, Rely A w w1 → I w1 → ∃ v w', (execOp a.eval o).run P w1 = .ok (.value v) w' ∧ GuarX X A M w1 w' (seen P b.fn ((execOp a.eval o).events P w1 #[])) ∧ WayAt P main I X S ops b k cs rest (fresh w1 w' A) (fresh w1 w' M) (a.put o.dst v) w') :
    WayAt P main I X S ops b k cs (i :: rest) A M a w :=
  Mc.way_go rfl fun w1 r hi => by
    obtain ⟨v, w', h1, h2, h3⟩ := h w1 r hi
    exact ⟨_, _, _, stepG_value ho hw hk h1, h2, h3⟩
/-- .. and turns nothing, and looks at nothing. -/
theorem way_pure {i : Nat} {rest : List Nat} {o : Oper} {v : Value} {A M : Nat → Prop} {a : Act} {w : World} (ho : ops[i]? = some o) (hw : Region.wanted o (yielded ops a.tmps) = true) (hk : b.kind ≠ .early)
    (hr : ∀ w1 : World, (execOp a.eval o).run P w1 = .ok (.value v) w1) (he : ∀ w1 : World, (execOp a.eval o).events P w1 #[] = #[]) (h : WayAt P main I X S ops b k cs rest A M (a.put o.dst v) w) :
    WayAt P main I X S ops b k cs (i :: rest) A M a w :=
  way_value ho hw hk fun w1 r _ => ⟨v, w1, hr w1, by rw [he w1, seen_none]; exact .still (by simp), by rw [Ev.fresh_self, Ev.fresh_self]; exact h.rely r⟩
end
end Wy
end Go.Proofs.YtbkjjknlphlhlaaDoor
