/- One call of 'each': what its goroutines do, stop by stop. -/
import Derived.Conc.FxGenWait
import Derived.Laws.Rows
import Derived.Test.YtbkjjknlphlhlaaDoorZ11
import Derived.Test.YtbkjjknlphlhlaaDoorZ25
namespace Go.Proofs.YtbkjjknlphlhlaaDoor
namespace Mc
open Go.Conc Go.ConcN Hd Sim Wy Ev
open Go.ConcR (KK WgAt stA smA mk)
set_option maxRecDepth 100000

abbrev Stop := (Nat → Prop) → (Nat → Prop) → Goroutine → World → Prop
def Made (i : Nat) (a e : Value) : Value := .agg #[.int .i64 i, a, e]
def no : Nat → Prop := fun _ => False
abbrev Vals := Nat → Value × Value

/-- What is known of every world while the call goes. -/
structure Kn (E : Env) (w : World) : Prop where
  wg : Live E.Wg w
  base : ∀ b, E.Base b → w.heap[b]? = E.W0.heap[b]?
  low : E.Low ≤ w.heap.size
  tape : w.tape = E.W0.tape
  os : w.os = E.W0.os
  output : w.output = E.W0.output
/-- What is let by: a plain read of what all may read; of the main: its words on the group. -/
def XE (E : Env) (main : Bool) (e : Event) : Prop := (∃ a : Addr, e = ⟨.cell a, false, false⟩ ∧ E.Base a.block) ∨ (main = true ∧ Said E.Wg e)
/-- The group's block alone is turned. -/
structure Turn (E : Env) (w w' : World) : Prop where
  aside : ∀ b : Nat, b ≠ E.Wg → w'.heap[b]? = w.heap[b]?
  size : w'.heap.size = w.heap.size
  tape : w'.tape = w.tape
  drawn : w'.drawn = w.drawn
  os : w'.os = w.os
  output : w'.output = w.output
/-- What an act on the group lists. -/
def Wgs (E : Env) (es : Array Event) : Prop := (∀ e ∈ es, (∃ (a : Addr) (wr : Bool), e = ⟨.cell a, wr, true⟩ ∧ a.block = E.Wg) ∨ e = mk .disable ∨ e = mk .enable) ∧ (∀ d, deafBehind d es = d) ∧ ∀ (j : Nat) (e : Event), es[j]? = some e → (MemAct.ofEvent e).touch? = none ∨ ((∃ ad wr, e = ⟨.cell ad, wr, true⟩) ∧ 0 < deafBehind 1 (es.extract 0 j))

section
variable (P : Program) (E : Env)
/-- On the way to a stop. -/
abbrev WayE (main : Bool) (S : Stop) : Stop := Wy.Way P main (Kn E) (XE E main) S
def Acts (main : Bool) (g : Goroutine) (w : World) (st sm : Int) (K : Goroutine → World → Prop) : Prop :=
  ∃ g' w' es, stepG P main g w = .go g' w' es ∧ Turn E w w' ∧ WgAt 83 E.Wg w' st sm ∧ Wgs E es ∧ K g' w'
def Says (main : Bool) (m : Mark) (g : Goroutine) (K : Goroutine → World → Prop) : Prop :=
  g.status = .running ∧ ∃ g', (∀ w, Kn E w → stepG P main g w = .go g' w #[mk m]) ∧ ∀ w, Kn E w → K g' w
def Stl (n : Nat) (g : Goroutine) (S : Goroutine → Prop) : Prop := ∃ g', Still P false n g g' ∧ S g'

/-- What the goroutines of one call are, where their ways go round. -/
structure Fam where
  Recv : Goroutine → Prop
  Sel : Nat → List Nat → Vals → Stop
  Ld : Vals → Goroutine → Prop
  Fin : Vals → Goroutine → Prop
  Lst : List Nat → Vals → (Nat → Prop) → World → Prop
  z0 : Value
  z5 : Value
  zs : Value
  sh : CommShape
  kw : Nat
variable (F : Fam)

/-! ### a worker -/
def rcs : Array CommCase := #[rcase E.cn F.z0]
def scs (i : Nat) (a e : Value) : Array CommCase := #[scase E.cd (Made i a e) F.zs]
def SRecv : Stop := fun _ _ g _ => F.Recv g
def AtSend (i : Nat) (a e : Value) (g : Goroutine) : Prop := g.status = .running ∧ (∀ w, Kn E w → stepG P false g w = .comm g (scs E F i a e) true .send w #[]) ∧ ∀ w, Kn E w → WayE P E false (SRecv F) E.Base no (g.finishComm P (scs E F i a e) .send 0 undef false) w
def SSend (i : Nat) : Stop := fun A _ g w => ∃ a e, AtSend P E F i a e g ∧ ∃ C, (∀ b, C b → A b) ∧ E.Rc C i a e w
def GL3 (g : Goroutine) : Prop := g.status = .running ∧ ∀ w, Kn E w → WgAt 83 E.Wg w 0 0 → Acts P E false g w 0 1 fun g' _ => QuitsD P 200 1 g' ∧ mayWake P g = true ∧ g'.status = .running
def GL2 (g : Goroutine) : Prop := g.status = .running ∧ ∀ w, Kn E w → WgAt 83 E.Wg w 1 0 → Acts P E false g w 0 0 fun g' _ => ∃ n, n ≤ 150 ∧ Stl P n g' (GL3 P E)
def GL1 (g : Goroutine) : Prop := g.status = .running ∧ ∀ w, Kn E w → WgAt 83 E.Wg w 1 0 → Acts P E false g w 1 0 fun g' _ => ∃ n, n ≤ 150 ∧ Stl P n g' (GL2 P E)
def GSub (g : Goroutine) : Prop := g.status = .running ∧ ∀ w st, Kn E w → WgAt 83 E.Wg w st 0 →
  (∀ k : Nat, st = ((k + 1 : Nat) : Int) * KK → k ≤ 15 → Acts P E false g w ((k : Int) * KK) 0 fun g' _ => QuitsD P 200 1 g') ∧
  (∀ k : Nat, st = ((k + 1 : Nat) : Int) * KK + 1 → 1 ≤ k → k ≤ 15 → Acts P E false g w ((k : Int) * KK + 1) 0 fun g' _ => QuitsD P 200 1 g') ∧
  (st = KK + 1 → Acts P E false g w 1 0 fun g' _ => ∃ n, n ≤ 150 ∧ Stl P n g' (GL1 P E))
def GDis (g : Goroutine) : Prop := Says P E false .disable g fun g' _ => ∃ n, n ≤ 150 ∧ Stl P n g' (GSub P E)
def SRel : Stop := fun _ _ g _ => Says P E false (.releaseMerge (stA E.Wg)) g fun g' _ => ∃ n, n ≤ 150 ∧ Stl P n g' (GDis P E)

/-! ### the main -/
abbrev GW := Goroutine → World → Prop
def SM4 (K : GW) : Stop := fun _ _ g _ => g.status = .running ∧ ∃ g' child, (∀ w, Kn E w → stepG P true g w = .spawn g' child w #[]) ∧ ∀ w, Kn E w → WayE P E false (SRecv F) E.Base no child w ∧ K g' w
def SM3 (K : GW) : Stop := fun _ _ g _ => Says P E true .enable g fun g' w => WayE P E true (SM4 P E F K) no no g' w
def SM2 (K : GW) : Stop := fun _ _ g _ => g.status = .running ∧ ∀ w (k : Nat), Kn E w → WgAt 83 E.Wg w ((k : Int) * KK) 0 → k ≤ 15 → Acts P E true g w (((k + 1 : Nat) : Int) * KK) 0 fun g' w' => WayE P E true (SM3 P E F K) no no g' w'
def SM1 (K : GW) : Stop := fun _ _ g _ => Says P E true .disable g fun g' w => WayE P E true (SM2 P E F K) no no g' w

def SWa (val : Vals) : Stop := fun _ _ g _ => Says P E true (.acquire (stA E.Wg)) g fun g' _ => F.Fin val g'
def SWe (val : Vals) : Stop := fun _ _ g _ => Says P E true .enable g fun g' w => WayE P E true (SWa P E F val) no no g' w
def SWl2 (val : Vals) : Stop := fun _ _ g _ => g.status = .running ∧ ∀ w, Kn E w → WgAt 83 E.Wg w 0 0 → Acts P E true g w 0 0 fun g' w' => WayE P E true (SWe P E F val) no no g' w'
def SWs (val : Vals) : Stop := fun _ _ g _ => g.status = .running ∧ g.offers = none ∧ (∀ w st, Kn E w → WgAt 83 E.Wg w st 0 → stepG P true g w = .go { g with status := .blocked } w #[]) ∧ ∀ w, Kn E w → WgAt 83 E.Wg w 0 1 → Acts P E true g w 0 0 fun g' w' => WayE P E true (SWl2 P E F val) no no g' w'
def SWl (val : Vals) : Stop := fun _ _ g _ => F.Ld val g
def SWc (val : Vals) (v : Nat) : Stop := fun _ _ g _ => g.status = .running ∧ ∀ w (s : Nat), Kn E w → WgAt 83 E.Wg w ((s : Int) * KK) 0 → s ≤ 16 →
  (s = v → Acts P E true g w ((v : Int) * KK + 1) 0 fun g' w' => WayE P E true (SWs P E F val) no no g' w') ∧ (s ≠ v → Acts P E true g w ((s : Int) * KK) 0 fun g' w' => WayE P E true (SWl F val) no no g' w')
def SWd (val : Vals) : Stop := fun _ _ g _ => Says P E true .disable g fun g' w => WayE P E true (SWl F val) no no g' w
def shut (E : Env) (w : World) (s r : Nat) : World := { w with heap := w.heap.setIfInBounds E.cn (.chan 0 #[] true s r false) }
def SClo (gl : List Nat) (val : Vals) : Stop := fun A _ g w => ∃ vl : Vals, (∀ j, j < E.n → vl j = val j) ∧ F.Lst gl vl A w ∧ g.status = .running ∧ mayWake P g = true ∧ ∃ g', g'.status = .running ∧ (∀ w s r, Kn E w → w.heap[E.cn]? = some (.chan 0 #[] false s r false) → stepG P true g w = .go g' (shut E w s r) #[⟨.obj E.cn, false, true⟩, ⟨.obj E.cn, true, true⟩]) ∧ ∀ w, Kn E w → WayE P E true (SWd P E F vl) no no g' w
def selCases (next : Nat) : Array CommCase := #[if next < E.n then scase E.cn (.int .i64 next) F.z0 else { chan := .chan none, send := some (.int .i64 next), zero := F.z0 }, rcase E.cd F.z5]
/-- Behind what has been gathered. -/
def After (next : Nat) (gl : List Nat) (val : Vals) : Stop := fun A M g w => if gl.length = E.n then WayE P E true (SClo P E F gl val) A M g w else WayE P E true (F.Sel next gl val) A M g w
def NextM : Nat → GW
  | 0 => fun g w => ∃ val, After P E F 0 [] val no no g w
  | r + 1 => fun g w => WayE P E true (SM1 P E F (NextM r)) no no g w

/-- ████ What is asked of them. ████ -/
structure Fam.Ok : Prop where
  kw : 1 ≤ F.kw ∧ F.kw ≤ 16
  recv : ∀ g, F.Recv g → g.status = .running ∧ ∀ w, Kn E w → stepG P false g w = .comm g (rcs E F) true (.recv true) w #[]
  recv_val : ∀ g, F.Recv g → ∀ i, i < E.n → ∀ w, Kn E w → WayE P E false (SSend P E F i) E.Base no (g.finishComm P (rcs E F) (.recv true) 0 (.int .i64 i) true) w
  recv_closed : ∀ g, F.Recv g → ∀ w, Kn E w → WayE P E false (SRel P E) no no (g.finishComm P (rcs E F) (.recv true) 0 F.z0 false) w
  sel : ∀ next gl val A M g w, F.Sel next gl val A M g w → g.status = .running ∧ ∀ w, Kn E w → stepG P true g w = .comm g (selCases E F next) true F.sh w #[]
  sel_send : ∀ next gl val A M g w, F.Sel next gl val A M g w → next < E.n → gl.length < E.n → ∀ w1, Rely A w w1 → Kn E w1 → WayE P E true (F.Sel (next + 1) gl val) A M (g.finishComm P (selCases E F next) F.sh 0 undef false) w1
  sel_recv : ∀ next gl val A M g w, F.Sel next gl val A M g w → gl.length < E.n → ∀ i a e, i < E.n → a.oneCell' = true → e.oneCell' = true → ∀ w1, Rely A w w1 → Kn E w1 → After P E F next (i :: gl) (fun j => if j = i then (a, e) else val j) A M (g.finishComm P (selCases E F next) F.sh 1 (Made i a e) true) w1
  sh : F.sh ≠ .send
  ld : ∀ val g, F.Ld val g → g.status = .running ∧ ∀ w (v : Nat), Kn E w → WgAt 83 E.Wg w ((v : Int) * KK) 0 → v ≤ 16 →
    (v = 0 → Acts P E true g w 0 0 fun g' w' => WayE P E true (SWe P E F val) no no g' w') ∧ (1 ≤ v → Acts P E true g w ((v : Int) * KK) 0 fun g' w' => WayE P E true (SWc P E F val v) no no g' w')
  fin : ∀ val g, F.Fin val g → g.status = .running
  lst : ∀ gl val A w w', F.Lst gl val A w → Rely A w w' → F.Lst gl val A w'
end

/-! ### where everybody stands -/
inductive Tag
  | m1 (r : Nat) | m2 (r : Nat) | m3 (r : Nat) | m4 (r : Nat)
  | sel (next : Nat) (gl : List Nat) (val : Vals) | selP (next : Nat) (gl : List Nat) (val : Vals)
  | clo (gl : List Nat) (val : Vals) | wd (gl : List Nat) (val : Vals) | wl (gl : List Nat) (val : Vals) | wc (v : Nat) (gl : List Nat) (val : Vals) | ws (gl : List Nat) (val : Vals) | wsB (gl : List Nat) (val : Vals)
  | wl2 (gl : List Nat) (val : Vals) | we (gl : List Nat) (val : Vals) | wa (gl : List Nat) (val : Vals)
  | rc | rcP | rcR | wk (i : Nat) | snP (i : Nat) (a e : Value) | rl | ds (n : Nat) | sb (n : Nat) | l1 (n : Nat) | l2 (n : Nat) | l3 (n : Nat) | quit (n : Nat)

section
variable (P : Program) (E : Env) (F : Fam)
/-- Whose stop it is, and which; where there is no way to go: none. -/
def stopOf : Tag → Option (Bool × Stop)
  | .m1 r => some (true, SM1 P E F (NextM P E F r))
  | .m2 r => some (true, SM2 P E F (NextM P E F r))
  | .m3 r => some (true, SM3 P E F (NextM P E F r))
  | .m4 r => some (true, SM4 P E F (NextM P E F r))
  | .sel next gl val => some (true, F.Sel next gl val)
  | .clo gl val => some (true, SClo P E F gl val)
  | .wd _ val => some (true, SWd P E F val)
  | .wl _ val => some (true, SWl F val)
  | .wc v _ val => some (true, SWc P E F val v)
  | .ws _ val | .wsB _ val => some (true, SWs P E F val)
  | .wl2 _ val => some (true, SWl2 P E F val)
  | .we _ val => some (true, SWe P E F val)
  | .wa _ val => some (true, SWa P E F val)
  | .rc => some (false, SRecv F)
  | .wk i => some (false, SSend P E F i)
  | .rl => some (false, SRel P E)
  | _ => none
def OnWay (main : Bool) (S : Stop) (x : Pt) (w : World) : Prop := Rely x.A x.w w ∧ WayE P E main S x.A x.M x.g x.w
/-- Goroutine g, in world w, its way being x: where it stands. -/
def Sit : Tag → Pt → Goroutine → World → Prop
  | .selP next gl val, x, g, w => g = parked x.g (selCases E F next) F.sh ∧ F.Sel next gl val x.A x.M x.g x.w ∧ Rely x.A x.w w
  | .wsB _ val, x, g, w => g = { x.g with status := .blocked } ∧ OnWay P E true (SWs P E F val) x w ∧ SWs P E F val x.A x.M x.g w
  | .rcP, x, g, _ => g = parked x.g (rcs E F) (.recv true) ∧ F.Recv x.g
  | .rcR, x, g, _ => g = { parked x.g (rcs E F) (.recv true) with status := .running } ∧ F.Recv x.g
  | .snP i a e, x, g, _ => g = parked x.g (scs E F i a e) .send ∧ AtSend P E F i a e x.g
  | .ds n, _, g, _ => Stl P n g (GDis P E)
  | .sb n, _, g, _ => Stl P n g (GSub P E)
  | .l1 n, _, g, _ => Stl P n g (GL1 P E)
  | .l2 n, _, g, _ => Stl P n g (GL2 P E)
  | .l3 n, _, g, _ => Stl P n g (GL3 P E)
  | .quit _, _, _, _ => True
  | τ, x, g, w => g = x.g ∧ match stopOf P E F τ with
    | some (main, S) => OnWay P E main S x w
    | none => False
end
def isMain : Tag → Bool
  | .m1 _ | .m2 _ | .m3 _ | .m4 _ | .sel .. | .selP .. | .clo .. | .wd .. | .wl .. | .wc .. | .ws .. | .wsB .. | .wl2 .. | .we .. | .wa .. => true
  | _ => false
/-- How deaf one is there. -/
def deafT : Tag → Nat
  | .m2 _ | .m3 _ | .wl .. | .wc .. | .ws .. | .wsB .. | .wl2 .. | .we .. | .sb _ | .l1 _ | .l2 _ | .l3 _ => 1
  | _ => 0
/-- It has said its release. -/
def relT : Tag → Bool
  | .ds _ | .sb _ | .l1 _ | .l2 _ | .l3 _ | .quit _ => true
  | _ => false
def DeafOk (P : Program) (t : Trace) (i : Nat) : Tag → Goroutine → Prop
  | .quit n, g => QuitsD P n (Deaf t i) g
  | τ, _ => Deaf t i = deafT τ
end Mc
end Go.Proofs.YtbkjjknlphlhlaaDoor
namespace Go.Proofs.YtbkjjknlphlhlaaDoor
namespace Ev
open Go.Conc Go.ConcN
open Go.ConcR (KK WgAt stA smA rd wr mk)
set_option maxRecDepth 100000

theorem live0 {Wg : Nat} {w : World} (h : Live Wg w) : ∃ v, w.cell? ⟨Wg, 0, none⟩ = some v := let ⟨_, _, x⟩ := h; ⟨_, x.cellSt⟩
section
variable (c : Frame) (cs : List Frame) (Wg : Nat)
noncomputable def W0 : Goroutine := G (Frame.enter Tryd.prog 36 #[.pointer (some ⟨Wg, 0, none⟩)] .normal) (c :: cs)
noncomputable def W1 : Goroutine := next Tryd.prog true (adv Tryd.prog true 3 (W0 c cs Wg))
noncomputable def W2 : Goroutine := adv Tryd.prog true 19 (W1 c cs Wg)
/-- At the load, Wait's own slots being T. -/
noncomputable def LD (T : Array Value) : Goroutine := { W2 c cs Wg with callers := match (W2 c cs Wg).callers with
  | f :: r => { f with tmps := T } :: r
  | [] => [] }
def slots (g : Goroutine) : Array Value := match g.callers with
  | f :: _ => f.tmps
  | [] => #[]
theorem w_dis : ToMark true Wg .disable (W0 c cs Wg) (W1 c cs Wg) :=
  ⟨3, _, (still_of (fun w => by kernel_rfl) (by kernel_rfl) (by kernel_rfl)).idle, by kernel_rfl, fun w => by kernel_rfl⟩
theorem w_to : Idle Tryd.prog true (Live Wg) (Said Wg) 19 (W1 c cs Wg) (W2 c cs Wg) := (still_of (fun w => by kernel_rfl) (by kernel_rfl) (by kernel_rfl)).idle
theorem w_first : W2 c cs Wg = LD c cs Wg (slots (W2 c cs Wg)) ∧ (slots (W2 c cs Wg)).size = 84 ∧ (slots (W2 c cs Wg))[0]? = some (.pointer (some ⟨Wg, 0, none⟩)) := ⟨by kernel_rfl, by kernel_rfl, by kernel_rfl⟩
variable (T : Array Value)
theorem w_sits : sits (LD c cs Wg T) = some (71, #[.pointer (some ⟨Wg, 0, none⟩)]) := by kernel_rfl
end
section
variable (c : Frame) (cs : List Frame) (Wg : Nat) (T : Array Value) (hT : T.size = 84) (h0 : T[0]? = some (.pointer (some ⟨Wg, 0, none⟩)))
 include hT h0
/-- The group is at nought: to the caller. -/
theorem w_through : ∃ g1 g2 g3, ToMark true Wg .enable (fin (LD c cs Wg T) (.int .u64 0)) g1 ∧ ToMark true Wg (.acquire (stA Wg)) g1 g2 ∧ Still Tryd.prog true 20 g2 g3 ∧ g3 = G (c.finish (.tuple #[])) cs := by
  obtain ⟨v0, v1, v2, v3, v4, v5, v6, v7, v8, v9, v10, v11, v12, v13, v14, v15, v16, v17, v18, v19, v20, v21, v22, v23, v24, v25, v26, v27, v28, v29, v30, v31, v32, v33, v34, v35, v36, v37, v38, v39, v40, v41, v42, v43, v44, v45, v46, v47, v48, v49, v50, v51, v52, v53, v54, v55, v56, v57, v58, v59, v60, v61, v62, v63, v64, v65, v66, v67, v68, v69, v70, v71, v72, v73, v74, v75, v76, v77, v78, v79, v80, v81, v82, v83, rfl⟩ := Go.ConcX.Gen.array84 T hT
  simp only [List.getElem?_toArray, List.getElem?_cons_zero, Option.some.injEq] at h0
  subst h0
  generalize hg : LD c cs Wg _ = g0
  refine ⟨next Tryd.prog true (adv Tryd.prog true 31 (fin g0 (.int .u64 0))), next Tryd.prog true (fin (adv Tryd.prog true 3 (next Tryd.prog true (adv Tryd.prog true 31 (fin g0 (.int .u64 0))))) (.pointer (some ⟨Wg, 0, none⟩))), _, ⟨31, _, (still_of (fun w => ?_) ?_ ?_).idle, ?_, fun w => ?_⟩,
    ⟨4, fin (adv Tryd.prog true 3 (next Tryd.prog true (adv Tryd.prog true 31 (fin g0 (.int .u64 0))))) (.pointer (some ⟨Wg, 0, none⟩)), Idle.trans (n := 3) (m := 1) (still_of (n := 3) (fun w => ?_) ?_ ?_).idle (Idle.one (es := #[]) ?_ (fun w hw => ?_) (by simp)), ?_, fun w => ?_⟩, still_of (n := 20) (fun w => ?_) ?_ ?_, ?_⟩
  all_goals subst hg
  rotate_left 9
  · obtain ⟨v, hv⟩ := live0 hw
    exact conv_step (src := 104) (dst := 90) (t := 83) (by kernel_rfl) (by kernel_rfl) (by kernel_rfl) (by kernel_rfl) hv
  all_goals kernel_rfl
end
end Ev
end Go.Proofs.YtbkjjknlphlhlaaDoor
namespace Go.Proofs.YtbkjjknlphlhlaaDoor
namespace Mc
open Go.Conc Go.ConcN Hd Sim Wy Ev
open Go.ConcR (KK WgAt stA smA mk)
set_option maxRecDepth 100000
section
variable {E : Env} {main : Bool} {g : Goroutine} {w : World} {st sm : Int} {K : GW}
theorem turn_cell (off : Nat) (v : Value) : Turn E w (w.setCell ⟨E.Wg, off, none⟩ v) :=
  ⟨fun b hb => heap_setCell_other w _ b v hb, (by simp [World.setCell]), rfl, rfl, rfl, rfl⟩
theorem turn_no : Turn E w w := ⟨fun _ _ => rfl, rfl, rfl, rfl, rfl, rfl⟩
theorem wgs_rw (off : Nat) : Wgs E #[⟨.cell ⟨E.Wg, off, none⟩, false, true⟩, ⟨.cell ⟨E.Wg, off, none⟩, true, true⟩] := by
  refine ⟨fun e he => ?_, fun d => rfl, fun j e he => ?_⟩
  · rcases (by simpa using he : e = ⟨.cell ⟨E.Wg, off, none⟩, false, true⟩ ∨ e = ⟨.cell ⟨E.Wg, off, none⟩, true, true⟩) with rfl | rfl
    · exact .inl ⟨_, _, rfl, rfl⟩
    · exact .inl ⟨_, _, rfl, rfl⟩
  · match j, he with
    | 0, he => cases he; exact .inr ⟨⟨_, _, rfl⟩, Nat.zero_lt_one⟩
    | 1, he => cases he; exact .inr ⟨⟨_, _, rfl⟩, Nat.zero_lt_one⟩
theorem wgs_one (off : Nat) (wr : Bool) : Wgs E #[⟨.cell ⟨E.Wg, off, none⟩, wr, true⟩] := by
  refine ⟨fun e he => ?_, fun d => rfl, fun j e he => ?_⟩
  · rw [Array.mem_singleton] at he; subst he; exact .inl ⟨_, _, rfl, rfl⟩
  · match j, he with
    | 0, he => cases he; exact .inr ⟨⟨_, _, rfl⟩, Nat.zero_lt_one⟩
theorem wgs_sem (off : Nat) : Wgs E (semEvents ⟨E.Wg, off, none⟩) := by
  refine ⟨fun e he => ?_, fun d => by show (d + 1 - 1) = d; omega, fun j e he => ?_⟩
  · simp only [semEvents, List.mem_toArray, List.mem_cons, List.not_mem_nil, or_false] at he
    rcases he with rfl | rfl | rfl | rfl
    · exact .inr (.inl rfl)
    · exact .inl ⟨_, _, rfl, rfl⟩
    · exact .inl ⟨_, _, rfl, rfl⟩
    · exact .inr (.inr rfl)
  · match j, he with
    | 0, he => cases he; exact .inl rfl
    | 1, he => cases he; exact .inr ⟨⟨_, _, rfl⟩, Nat.zero_lt_succ _⟩
    | 2, he => cases he; exact .inr ⟨⟨_, _, rfl⟩, Nat.zero_lt_succ _⟩
    | 3, he => cases he; exact .inl rfl
theorem add_acts {d v : Int} (h : sits g = some (70, #[.pointer (some ⟨E.Wg, 0, none⟩), .int .u64 d])) (hw : WgAt 83 E.Wg w v sm) (hs : IntKind.u64.wrap (v + d) = st) (hK : ∀ w', K (fin g (.int .u64 st)) w') : Acts Tryd.prog E main g w st sm K := by
  have := add_step (main := main) h hw.cellSt (hw.thaw 0)
  rw [hs] at this
  exact ⟨_, _, _, this, turn_cell _ _, hw.setSt st, wgs_rw 0, hK _⟩
theorem load_acts {v : Int} (h : sits g = some (71, #[.pointer (some ⟨E.Wg, 0, none⟩)])) (hw : WgAt 83 E.Wg w v sm) (hK : K (fin g (.int .u64 v)) w) : Acts Tryd.prog E main g w v sm K :=
  ⟨_, _, _, load_step (main := main) h hw.cellSt, turn_no, hw, wgs_one 0 false, hK⟩
theorem store_acts {v u : Int} (h : sits g = some (72, #[.pointer (some ⟨E.Wg, 0, none⟩), .int .u64 u])) (hw : WgAt 83 E.Wg w v sm) (hK : ∀ w', K (fin g (.tuple #[])) w') : Acts Tryd.prog E main g w u sm K :=
  ⟨_, _, _, store_step (main := main) h hw.cellSt (hw.thaw 0), turn_cell _ _, hw.setSt u, wgs_one 0 true, hK _⟩
theorem hit_acts {v n : Int} (h : sits g = some (73, #[.pointer (some ⟨E.Wg, 0, none⟩), .int .u64 v, .int .u64 n])) (hw : WgAt 83 E.Wg w v sm) (hK : ∀ w', K (fin g (.bool true)) w') : Acts Tryd.prog E main g w n sm K :=
  ⟨_, _, _, cas_hit (main := main) h hw.cellSt (hw.thaw 0), turn_cell _ _, hw.setSt n, wgs_rw 0, hK _⟩
theorem miss_acts {v o n : Int} (h : sits g = some (73, #[.pointer (some ⟨E.Wg, 0, none⟩), .int .u64 o, .int .u64 n])) (hw : WgAt 83 E.Wg w v sm) (hne : ¬ v = o) (hK : K (fin g (.bool false)) w) : Acts Tryd.prog E main g w v sm K :=
  ⟨_, _, _, cas_miss (main := main) h hw.cellSt (hw.thaw 0) hne, turn_no, hw, wgs_one 0 false, hK⟩
theorem take_acts {l : List Value} (h : sits g = some (63, ⟨.pointer (some ⟨E.Wg, 1, none⟩) :: l⟩)) (hw : WgAt 83 E.Wg w st 1) (hK : ∀ w', K (fin g (.tuple #[])) w') : Acts Tryd.prog E main g w st 0 K := by
  have := sem_take (main := main) h hw.cellSm (by decide) (hw.thaw 1)
  exact ⟨_, _, _, this, turn_cell _ _, hw.setSm _, wgs_sem 1, hK _⟩
theorem give_acts {l : List Value} (h : sits g = some (58, ⟨.pointer (some ⟨E.Wg, 1, none⟩) :: l⟩)) (hw : WgAt 83 E.Wg w st 0) (hK : ∀ w', K (fin g (.tuple #[])) w') : Acts Tryd.prog E main g w st 1 K := by
  have := sem_give (main := main) h hw.cellSm (hw.thaw 1)
  exact ⟨_, _, _, this, turn_cell _ _, hw.setSm _, wgs_sem 1, hK _⟩
theorem sits_run {x : FuncId × Array Value} (h : sits g = some x) : g.status = .running := by
  obtain ⟨f, args⟩ := x
  obtain ⟨b, a, ops, i, rest, k, o, ars, ats, hg, _⟩ := sits_is h
  rw [hg]; rfl
/-- An idle way. -/
theorem kn_idle {n : Nat} {g' : Goroutine} (h : Idle Tryd.prog true (Live E.Wg) (Said E.Wg) n g g') : Idle Tryd.prog true (Kn E) (XE E true) n g g' := by
  induction n generalizing g with
  | zero => exact h
  | succ n ih =>
    obtain ⟨h0, g1, es, h1, h2, h3⟩ := h
    exact ⟨h0, g1, es, fun w hw => h1 w hw.wg, fun e he => .inr ⟨rfl, h2 e he⟩, ih h3⟩
theorem way_stop {S : Stop} {A M : Nat → Prop} (h : ∀ w, S A M g w) : WayE Tryd.prog E main S A M g w := .stop fun w1 _ _ => h w1
theorem way_mark {S : Stop} {A M : Nat → Prop} {m : Mark} {g' : Goroutine} (h : ToMark true E.Wg m g g') (hS : ∀ g1, g1.status = .running → (∀ w, stepG Tryd.prog true g1 w = .go g' w #[mk m]) → ∀ w, S A M g1 w) : WayE Tryd.prog E true S A M g w := by
  obtain ⟨n, g1, h1, h2, h3⟩ := h
  exact Way.idle (kn_idle h1) (way_stop (hS g1 h2 h3))
end
end Mc
end Go.Proofs.YtbkjjknlphlhlaaDoor
namespace Go.Proofs.YtbkjjknlphlhlaaDoor
namespace Ev
open Go.Conc Go.ConcN
open Go.ConcR (KK WgAt stA smA rd wr mk)
set_option maxRecDepth 100000
section
variable (c : Frame) (cs : List Frame) (Wg : Nat)
/-- At the CompareAndSwap, S having been read. -/
noncomputable def CA (T : Array Value) (S : Int) : Goroutine := adv Tryd.prog true 48 (fin (LD c cs Wg T) (.int .u64 S))
/-- Wait's own slots, once that has missed. -/
noncomputable def NT (T : Array Value) (S : Int) : Array Value := slots (adv Tryd.prog true 25 (fin (CA c cs Wg T S) (.bool false)))
end
end Ev
end Go.Proofs.YtbkjjknlphlhlaaDoor
namespace Go.Proofs.YtbkjjknlphlhlaaDoor
namespace Ev
open Go.Conc Go.ConcN
open Go.ConcR (KK WgAt stA smA rd wr mk)
set_option maxRecDepth 100000
section
variable (c : Frame) (cs : List Frame) (Wg : Nat)
variable (T : Array Value) (hT : T.size = 84) (h0 : T[0]? = some (.pointer (some ⟨Wg, 0, none⟩))) (S : Int) (hS : S = 4294967296 ∨ S = 8589934592 ∨ S = 12884901888 ∨ S = 17179869184)
 include hT h0 hS
theorem w_ca_a : Idle Tryd.prog true (Live Wg) (Said Wg) 48 (fin (LD c cs Wg T) (.int .u64 S)) (CA c cs Wg T S) ∧ sits (CA c cs Wg T S) = some (73, #[.pointer (some ⟨Wg, 0, none⟩), .int .u64 S, .int .u64 (S + 1)]) := by
  obtain ⟨v0, v1, v2, v3, v4, v5, v6, v7, v8, v9, v10, v11, v12, v13, v14, v15, v16, v17, v18, v19, v20, v21, v22, v23, v24, v25, v26, v27, v28, v29, v30, v31, v32, v33, v34, v35, v36, v37, v38, v39, v40, v41, v42, v43, v44, v45, v46, v47, v48, v49, v50, v51, v52, v53, v54, v55, v56, v57, v58, v59, v60, v61, v62, v63, v64, v65, v66, v67, v68, v69, v70, v71, v72, v73, v74, v75, v76, v77, v78, v79, v80, v81, v82, v83, rfl⟩ := Go.ConcX.Gen.array84 T hT
  simp only [List.getElem?_toArray, List.getElem?_cons_zero, Option.some.injEq] at h0
  subst h0
  refine ⟨(still_of (n := 48) (fun w => ?_) ?_ ?_).idle, ?_⟩
  · rcases hS with rfl | rfl | rfl | rfl <;> kernel_rfl
  · rcases hS with rfl | rfl | rfl | rfl <;> kernel_rfl
  · rcases hS with rfl | rfl | rfl | rfl <;> kernel_rfl
  · rcases hS with rfl | rfl | rfl | rfl <;> kernel_rfl
theorem w_miss_a : Idle Tryd.prog true (Live Wg) (Said Wg) 25 (fin (CA c cs Wg T S) (.bool false)) (LD c cs Wg (NT c cs Wg T S)) ∧ (NT c cs Wg T S).size = 84 ∧ (NT c cs Wg T S)[0]? = some (.pointer (some ⟨Wg, 0, none⟩)) := by
  obtain ⟨v0, v1, v2, v3, v4, v5, v6, v7, v8, v9, v10, v11, v12, v13, v14, v15, v16, v17, v18, v19, v20, v21, v22, v23, v24, v25, v26, v27, v28, v29, v30, v31, v32, v33, v34, v35, v36, v37, v38, v39, v40, v41, v42, v43, v44, v45, v46, v47, v48, v49, v50, v51, v52, v53, v54, v55, v56, v57, v58, v59, v60, v61, v62, v63, v64, v65, v66, v67, v68, v69, v70, v71, v72, v73, v74, v75, v76, v77, v78, v79, v80, v81, v82, v83, rfl⟩ := Go.ConcX.Gen.array84 T hT
  simp only [List.getElem?_toArray, List.getElem?_cons_zero, Option.some.injEq] at h0
  subst h0
  have e : ∀ g g', Idle Tryd.prog true (Live Wg) (Said Wg) 25 g (adv Tryd.prog true 25 g) → adv Tryd.prog true 25 g = g' → Idle Tryd.prog true (Live Wg) (Said Wg) 25 g g' := fun g g' h e => e ▸ h
  refine ⟨e _ _ (still_of (n := 25) (fun w => ?_) ?_ ?_).idle ?_, ?_, ?_⟩
  · rcases hS with rfl | rfl | rfl | rfl <;> kernel_rfl
  · rcases hS with rfl | rfl | rfl | rfl <;> kernel_rfl
  · rcases hS with rfl | rfl | rfl | rfl <;> kernel_rfl
  · rcases hS with rfl | rfl | rfl | rfl <;> kernel_rfl
  · rcases hS with rfl | rfl | rfl | rfl <;> kernel_rfl
  · rcases hS with rfl | rfl | rfl | rfl <;> kernel_rfl
end
end Ev
end Go.Proofs.YtbkjjknlphlhlaaDoor
namespace Go.Proofs.YtbkjjknlphlhlaaDoor
namespace Ev
open Go.Conc Go.ConcN
open Go.ConcR (KK WgAt stA smA rd wr mk)
set_option maxRecDepth 100000
section
variable (c : Frame) (cs : List Frame) (Wg : Nat)
variable (T : Array Value) (hT : T.size = 84) (h0 : T[0]? = some (.pointer (some ⟨Wg, 0, none⟩))) (S : Int) (hS : S = 21474836480 ∨ S = 25769803776 ∨ S = 30064771072 ∨ S = 34359738368)
 include hT h0 hS
theorem w_ca_b : Idle Tryd.prog true (Live Wg) (Said Wg) 48 (fin (LD c cs Wg T) (.int .u64 S)) (CA c cs Wg T S) ∧ sits (CA c cs Wg T S) = some (73, #[.pointer (some ⟨Wg, 0, none⟩), .int .u64 S, .int .u64 (S + 1)]) := by
  obtain ⟨v0, v1, v2, v3, v4, v5, v6, v7, v8, v9, v10, v11, v12, v13, v14, v15, v16, v17, v18, v19, v20, v21, v22, v23, v24, v25, v26, v27, v28, v29, v30, v31, v32, v33, v34, v35, v36, v37, v38, v39, v40, v41, v42, v43, v44, v45, v46, v47, v48, v49, v50, v51, v52, v53, v54, v55, v56, v57, v58, v59, v60, v61, v62, v63, v64, v65, v66, v67, v68, v69, v70, v71, v72, v73, v74, v75, v76, v77, v78, v79, v80, v81, v82, v83, rfl⟩ := Go.ConcX.Gen.array84 T hT
  simp only [List.getElem?_toArray, List.getElem?_cons_zero, Option.some.injEq] at h0
  subst h0
  refine ⟨(still_of (n := 48) (fun w => ?_) ?_ ?_).idle, ?_⟩
  · rcases hS with rfl | rfl | rfl | rfl <;> kernel_rfl
  · rcases hS with rfl | rfl | rfl | rfl <;> kernel_rfl
  · rcases hS with rfl | rfl | rfl | rfl <;> kernel_rfl
  · rcases hS with rfl | rfl | rfl | rfl <;> kernel_rfl
theorem w_miss_b : Idle Tryd.prog true (Live Wg) (Said Wg) 25 (fin (CA c cs Wg T S) (.bool false)) (LD c cs Wg (NT c cs Wg T S)) ∧ (NT c cs Wg T S).size = 84 ∧ (NT c cs Wg T S)[0]? = some (.pointer (some ⟨Wg, 0, none⟩)) := by
  obtain ⟨v0, v1, v2, v3, v4, v5, v6, v7, v8, v9, v10, v11, v12, v13, v14, v15, v16, v17, v18, v19, v20, v21, v22, v23, v24, v25, v26, v27, v28, v29, v30, v31, v32, v33, v34, v35, v36, v37, v38, v39, v40, v41, v42, v43, v44, v45, v46, v47, v48, v49, v50, v51, v52, v53, v54, v55, v56, v57, v58, v59, v60, v61, v62, v63, v64, v65, v66, v67, v68, v69, v70, v71, v72, v73, v74, v75, v76, v77, v78, v79, v80, v81, v82, v83, rfl⟩ := Go.ConcX.Gen.array84 T hT
  simp only [List.getElem?_toArray, List.getElem?_cons_zero, Option.some.injEq] at h0
  subst h0
  have e : ∀ g g', Idle Tryd.prog true (Live Wg) (Said Wg) 25 g (adv Tryd.prog true 25 g) → adv Tryd.prog true 25 g = g' → Idle Tryd.prog true (Live Wg) (Said Wg) 25 g g' := fun g g' h e => e ▸ h
  refine ⟨e _ _ (still_of (n := 25) (fun w => ?_) ?_ ?_).idle ?_, ?_, ?_⟩
  · rcases hS with rfl | rfl | rfl | rfl <;> kernel_rfl
  · rcases hS with rfl | rfl | rfl | rfl <;> kernel_rfl
  · rcases hS with rfl | rfl | rfl | rfl <;> kernel_rfl
  · rcases hS with rfl | rfl | rfl | rfl <;> kernel_rfl
  · rcases hS with rfl | rfl | rfl | rfl <;> kernel_rfl
  · rcases hS with rfl | rfl | rfl | rfl <;> kernel_rfl
end
end Ev
end Go.Proofs.YtbkjjknlphlhlaaDoor
namespace Go.Proofs.YtbkjjknlphlhlaaDoor
namespace Ev
open Go.Conc Go.ConcN
open Go.ConcR (KK WgAt stA smA rd wr mk)
set_option maxRecDepth 100000
section
variable (c : Frame) (cs : List Frame) (Wg : Nat)
variable (T : Array Value) (hT : T.size = 84) (h0 : T[0]? = some (.pointer (some ⟨Wg, 0, none⟩))) (S : Int) (hS : S = 38654705664 ∨ S = 42949672960 ∨ S = 47244640256 ∨ S = 51539607552)
 include hT h0 hS
theorem w_ca_c : Idle Tryd.prog true (Live Wg) (Said Wg) 48 (fin (LD c cs Wg T) (.int .u64 S)) (CA c cs Wg T S) ∧ sits (CA c cs Wg T S) = some (73, #[.pointer (some ⟨Wg, 0, none⟩), .int .u64 S, .int .u64 (S + 1)]) := by
  obtain ⟨v0, v1, v2, v3, v4, v5, v6, v7, v8, v9, v10, v11, v12, v13, v14, v15, v16, v17, v18, v19, v20, v21, v22, v23, v24, v25, v26, v27, v28, v29, v30, v31, v32, v33, v34, v35, v36, v37, v38, v39, v40, v41, v42, v43, v44, v45, v46, v47, v48, v49, v50, v51, v52, v53, v54, v55, v56, v57, v58, v59, v60, v61, v62, v63, v64, v65, v66, v67, v68, v69, v70, v71, v72, v73, v74, v75, v76, v77, v78, v79, v80, v81, v82, v83, rfl⟩ := Go.ConcX.Gen.array84 T hT
  simp only [List.getElem?_toArray, List.getElem?_cons_zero, Option.some.injEq] at h0
  subst h0
  refine ⟨(still_of (n := 48) (fun w => ?_) ?_ ?_).idle, ?_⟩
  · rcases hS with rfl | rfl | rfl | rfl <;> kernel_rfl
  · rcases hS with rfl | rfl | rfl | rfl <;> kernel_rfl
  · rcases hS with rfl | rfl | rfl | rfl <;> kernel_rfl
  · rcases hS with rfl | rfl | rfl | rfl <;> kernel_rfl
theorem w_miss_c : Idle Tryd.prog true (Live Wg) (Said Wg) 25 (fin (CA c cs Wg T S) (.bool false)) (LD c cs Wg (NT c cs Wg T S)) ∧ (NT c cs Wg T S).size = 84 ∧ (NT c cs Wg T S)[0]? = some (.pointer (some ⟨Wg, 0, none⟩)) := by
  obtain ⟨v0, v1, v2, v3, v4, v5, v6, v7, v8, v9, v10, v11, v12, v13, v14, v15, v16, v17, v18, v19, v20, v21, v22, v23, v24, v25, v26, v27, v28, v29, v30, v31, v32, v33, v34, v35, v36, v37, v38, v39, v40, v41, v42, v43, v44, v45, v46, v47, v48, v49, v50, v51, v52, v53, v54, v55, v56, v57, v58, v59, v60, v61, v62, v63, v64, v65, v66, v67, v68, v69, v70, v71, v72, v73, v74, v75, v76, v77, v78, v79, v80, v81, v82, v83, rfl⟩ := Go.ConcX.Gen.array84 T hT
  simp only [List.getElem?_toArray, List.getElem?_cons_zero, Option.some.injEq] at h0
  subst h0
  have e : ∀ g g', Idle Tryd.prog true (Live Wg) (Said Wg) 25 g (adv Tryd.prog true 25 g) → adv Tryd.prog true 25 g = g' → Idle Tryd.prog true (Live Wg) (Said Wg) 25 g g' := fun g g' h e => e ▸ h
  refine ⟨e _ _ (still_of (n := 25) (fun w => ?_) ?_ ?_).idle ?_, ?_, ?_⟩
  · rcases hS with rfl | rfl | rfl | rfl <;> kernel_rfl
  · rcases hS with rfl | rfl | rfl | rfl <;> kernel_rfl
  · rcases hS with rfl | rfl | rfl | rfl <;> kernel_rfl
  · rcases hS with rfl | rfl | rfl | rfl <;> kernel_rfl
  · rcases hS with rfl | rfl | rfl | rfl <;> kernel_rfl
  · rcases hS with rfl | rfl | rfl | rfl <;> kernel_rfl
end
end Ev
end Go.Proofs.YtbkjjknlphlhlaaDoor
namespace Go.Proofs.YtbkjjknlphlhlaaDoor
namespace Ev
open Go.Conc Go.ConcN
open Go.ConcR (KK WgAt stA smA rd wr mk)
set_option maxRecDepth 100000
section
variable (c : Frame) (cs : List Frame) (Wg : Nat)
variable (T : Array Value) (hT : T.size = 84) (h0 : T[0]? = some (.pointer (some ⟨Wg, 0, none⟩))) (S : Int) (hS : S = 55834574848 ∨ S = 60129542144 ∨ S = 64424509440 ∨ S = 68719476736)
 include hT h0 hS
theorem w_ca_d : Idle Tryd.prog true (Live Wg) (Said Wg) 48 (fin (LD c cs Wg T) (.int .u64 S)) (CA c cs Wg T S) ∧ sits (CA c cs Wg T S) = some (73, #[.pointer (some ⟨Wg, 0, none⟩), .int .u64 S, .int .u64 (S + 1)]) := by
  obtain ⟨v0, v1, v2, v3, v4, v5, v6, v7, v8, v9, v10, v11, v12, v13, v14, v15, v16, v17, v18, v19, v20, v21, v22, v23, v24, v25, v26, v27, v28, v29, v30, v31, v32, v33, v34, v35, v36, v37, v38, v39, v40, v41, v42, v43, v44, v45, v46, v47, v48, v49, v50, v51, v52, v53, v54, v55, v56, v57, v58, v59, v60, v61, v62, v63, v64, v65, v66, v67, v68, v69, v70, v71, v72, v73, v74, v75, v76, v77, v78, v79, v80, v81, v82, v83, rfl⟩ := Go.ConcX.Gen.array84 T hT
  simp only [List.getElem?_toArray, List.getElem?_cons_zero, Option.some.injEq] at h0
  subst h0
  refine ⟨(still_of (n := 48) (fun w => ?_) ?_ ?_).idle, ?_⟩
  · rcases hS with rfl | rfl | rfl | rfl <;> kernel_rfl
  · rcases hS with rfl | rfl | rfl | rfl <;> kernel_rfl
  · rcases hS with rfl | rfl | rfl | rfl <;> kernel_rfl
  · rcases hS with rfl | rfl | rfl | rfl <;> kernel_rfl
theorem w_miss_d : Idle Tryd.prog true (Live Wg) (Said Wg) 25 (fin (CA c cs Wg T S) (.bool false)) (LD c cs Wg (NT c cs Wg T S)) ∧ (NT c cs Wg T S).size = 84 ∧ (NT c cs Wg T S)[0]? = some (.pointer (some ⟨Wg, 0, none⟩)) := by
  obtain ⟨v0, v1, v2, v3, v4, v5, v6, v7, v8, v9, v10, v11, v12, v13, v14, v15, v16, v17, v18, v19, v20, v21, v22, v23, v24, v25, v26, v27, v28, v29, v30, v31, v32, v33, v34, v35, v36, v37, v38, v39, v40, v41, v42, v43, v44, v45, v46, v47, v48, v49, v50, v51, v52, v53, v54, v55, v56, v57, v58, v59, v60, v61, v62, v63, v64, v65, v66, v67, v68, v69, v70, v71, v72, v73, v74, v75, v76, v77, v78, v79, v80, v81, v82, v83, rfl⟩ := Go.ConcX.Gen.array84 T hT
  simp only [List.getElem?_toArray, List.getElem?_cons_zero, Option.some.injEq] at h0
  subst h0
  have e : ∀ g g', Idle Tryd.prog true (Live Wg) (Said Wg) 25 g (adv Tryd.prog true 25 g) → adv Tryd.prog true 25 g = g' → Idle Tryd.prog true (Live Wg) (Said Wg) 25 g g' := fun g g' h e => e ▸ h
  refine ⟨e _ _ (still_of (n := 25) (fun w => ?_) ?_ ?_).idle ?_, ?_, ?_⟩
  · rcases hS with rfl | rfl | rfl | rfl <;> kernel_rfl
  · rcases hS with rfl | rfl | rfl | rfl <;> kernel_rfl
  · rcases hS with rfl | rfl | rfl | rfl <;> kernel_rfl
  · rcases hS with rfl | rfl | rfl | rfl <;> kernel_rfl
  · rcases hS with rfl | rfl | rfl | rfl <;> kernel_rfl
  · rcases hS with rfl | rfl | rfl | rfl <;> kernel_rfl
end
end Ev
end Go.Proofs.YtbkjjknlphlhlaaDoor
