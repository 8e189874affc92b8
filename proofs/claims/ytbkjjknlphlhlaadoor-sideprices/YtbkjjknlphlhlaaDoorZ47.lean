/- The law's first loop: a round of it, alone. -/
import Derived.Laws.AppendOwnNone
import Derived.Test.YtbkjjknlphlhlaaDoorZ46
namespace Go.Proofs.YtbkjjknlphlhlaaDoor
namespace Px
open Go.Conc Go.ConcN Sim Sin Sf Mc Hd Mb Ev
open Go.RowKit
set_option maxRecDepth 100000

/-- The slots of the law. -/
def T3 (u : Nat → Value) : Array Value := #[u 0, u 1, u 2, u 3, u 4, u 5, u 6, u 7, u 8, u 9, u 10, u 11, u 12, u 13, u 14, u 15, u 16, u 17, u 18, u 19, u 20, u 21, u 22, u 23, u 24, u 25, u 26, u 27, u 28, u 29, u 30, u 31, u 32, u 33, u 34, u 35, u 36, u 37, u 38, u 39, u 40, u 41, u 42, u 43, u 44, u 45, u 46, u 47, u 48, u 49, u 50, u 51, u 52, u 53, u 54, u 55, u 56, u 57, u 58, u 59, u 60, u 61, u 62, u 63, u 64, u 65, u 66, u 67, u 68, u 69, u 70, u 71, u 72, u 73, u 74, u 75, u 76, u 77, u 78, u 79, u 80, u 81, u 82, u 83, u 84, u 85, u 86, u 87, u 88, u 89, u 90, u 91, u 92, u 93, u 94, u 95, u 96, u 97, u 98, u 99, u 100, u 101, u 102, u 103, u 104, u 105, u 106, u 107, u 108, u 109, u 110, u 111, u 112, u 113, u 114, u 115, u 116, u 117, u 118, u 119, u 120, u 121, u 122, u 123, u 124, u 125, u 126, u 127, u 128, u 129, u 130, u 131, u 132, u 133, u 134, u 135, u 136, u 137]
theorem T3_is (u : Nat → Value) : T3 u = ((List.range 138).map u).toArray ∧ True := ⟨rfl, trivial⟩
theorem T3_get (u : Nat → Value) {j : Nat} (hj : j < 138) : (T3 u).getD j undef = u j := by
  rw [(T3_is u).1]
  simp [Array.getD, hj]
theorem T3_of {a : Array Value} (h : a.size = 138) : a = T3 fun j => a.getD j undef := by
  rw [(T3_is _).1]
  refine Array.ext (by simp [h]) fun i h1 h2 => ?_
  simp [Array.getD, h1]
/-- The rows of lots that are the call's own. -/
def Lrow (w : World) (base : Nat) (x : Value) (l : List Cv.Lot) : Prop := w.ownsRow base 47 5 x l.length (flat l)
/-- A list that came in. -/
def Cell (w : World) (v : Value) (l : List Cv.Lot) : Prop := (v = .slice none 0 0 ∧ l = []) ∨ ∃ g c, v = .slice (some g) l.length c ∧ ∀ j u, (flat l)[j]? = some u → w.cell? (g.add j) = some u
/-- What a round leaves. -/
def RoundQ (u : Nat → Value) (own : Value) (base i : Nat) (cnt : Int) (xs : List Value) (l : List Cv.Lot) (w : World) (t : Array Value) (w' : World) : Prop :=
  ∃ own' x, t.size = 138 ∧ (t.getD 0 undef = u 0 ∧ t.getD 1 undef = u 1 ∧ t.getD 2 undef = u 2 ∧ t.getD 6 undef = u 6) ∧ t.getD 8 undef = .int .i64 (cnt + l.length) ∧ t.getD 9 undef = own' ∧ t.getD 10 undef = .int .i64 ((i + 1 : Nat) : Int) ∧
    w'.ownsRow base 24 1 own' (i + 1) (xs ++ [x]) ∧ Lrow w' w.heap.size x l ∧ (own'.ownBlock = own.ownBlock ∨ ∃ b, own'.ownBlock = some b ∧ w.heap.size ≤ b) ∧ w.heap.size ≤ w'.heap.size ∧ ∀ b, b < w.heap.size → some b ≠ own.ownBlock → w'.heap[b]? = w.heap[b]?
theorem info24 : ∃ i, Tryd.prog.info? 24 = some i ∧ i.zero = some (.slice none 0 0) ∧ i.size = 1 ∧ i.bytes = 24 := ⟨_, rfl, rfl, rfl, rfl⟩
set_option maxHeartbeats 2000000 in
theorem round_some (u : Nat → Value) (tl g : Addr) (nl cl n c cnt i base : Nat) (own : Value) (xs : List Value) (l : List Cv.Lot) (w : World) (h0 : u 0 = .slice (some tl) nl cl) (h8 : u 8 = .int .i64 cnt) (h9 : u 9 = own) (h10 : u 10 = .int .i64 i) (hi : i < nl) (hn : nl ≤ 110)
    (hln : Hid (l.length = n)) (hcell : w.cell? (tl.add i) = some (.slice (some g) n c)) (hl : Hid (∀ j v, (flat l)[j]? = some v → w.cell? (g.add j) = some v)) (h130 : n ≤ 130) (h200 : cnt ≤ 200) (hown : Hid (w.ownsRow base 24 1 own i xs)) (hb : base ≤ w.heap.size) :
    l3.wp Tryd.prog (fun e a' w' => e = .normal ∧ a'.defers = [] ∧ RoundQ u own base i cnt xs l w a'.tmps w') ⟨T3 u, []⟩ w := by
  simp only [l3, body, w3, m3, r3, b3, fst, snd, Tryd.f3, Option.getD, T3, h0, h8, h9, h10]
  have k1 : (i : Int) < nl := by omega
  have k2 : ¬ (n : Int) > 130 := by omega
  have k3 : ¬ (cnt : Int) > 200 := by omega
  obtain ⟨i0, z0, hi, hz0, hz1, hz2, hz3⟩ := info110
  have Hi := hide hi; have Hz0 := hide hz0; have Hz1 := hide hz1; have Hz2 := hide hz2; have Hz3 := hide hz3
  obtain ⟨i1, gi, gz0, gz1, gz2⟩ := info24
  have Gi := hide gi; have Gz0 := hide gz0; have Gz1 := hide gz1; have Gz2 := hide gz2
  clear hi hz0 hz1 hz2 hz3 gi gz0 gz1 gz2
  go_wp2_with (at_builtin; refine wpList_append_own_at _ rfl _ _ 24 rfl w.heap.size 47 i0 z0 5 40 Tryd.underlying24 Hi.out Hz0.out Hz1.out Hz2.out Hz3.out (by decide) _ _ _ rfl (World.ownsRow_nil _ _ _ _) g n c (flat l) rfl (by rw [flat_length, hln.out]) hl.out (flat_one l) (by unfold maxLen; omega) (by omega) (Nat.le_refl _) ?_)
  intro x w1 hx hgr _ hat
  have hx : w1.ownsRow w.heap.size 47 5 x n (flat l) := by simpa using hx
  obtain ⟨ax, cx, rfl⟩ : ∃ a c, x = .slice a n c := by
    rcases hx.2 with ⟨rfl, rfl⟩ | ⟨g, cap, cur, rfl, _⟩
    · exact ⟨_, _, rfl⟩
    · exact ⟨_, _, rfl⟩
  have HX := hide hx
  have HG := hide hgr
  have HO1 : Hid (w1.ownsRow base 24 1 own i xs) := hown.out.kept hgr (Classical.em (own.ownBlock = none))
  clear hx hgr hat
  go_wp2_with (at_builtin; refine wpList_append_own_at _ rfl _ _ 22 rfl base 24 i1 (.slice none 0 0) 1 24 Tryd.underlying22 Gi.out Gz0.out Gz1.out Gz2.out rfl (by decide) _ _ _ rfl (HO1.out.alloc _) ⟨w1.heap.size, 0, none⟩ 1 1 [.slice ax n cx] rfl rfl ?c1 ?c2 ?c3 ?c4 ?c5 ?_)
  case c1 =>
    intro j v hj
    match j, hj with
    | 0, hj =>
      have hj : Value.slice ax n cx = v := by simpa using hj
      subst hj
      show World.cell? _ ⟨w1.heap.size, 0, none⟩ = _
      rw [World.cell?_alloc_new]
      rfl
    | j + 1, hj => simp at hj
  case c2 =>
    intro v hv
    have hv : v = .slice ax n cx := by simpa using hv
    rw [hv]; rfl
  case c3 => unfold maxLen; omega
  case c4 => omega
  case c5 =>
    have := HG.out.size
    simp; omega
  intro own' w3 hown' hgrow _ hloc
  have HO3 := hide hown'; have HG3 := hide hgrow; have HL3 := hide hloc
  clear hown' hgrow hloc
  go_wp2
  have hn1 : w1.heap.size + 1 = (w1.alloc (.cells #[.slice ax n cx] 24)).heap.size := by simp
  have hb1 : ∀ b, b < w.heap.size → w1.heap[b]? = w.heap[b]? := fun b hb => HG.out.block b hb (by simp [Value.ownBlock])
  have hb2 : ∀ b, b < w1.heap.size → some b ≠ own.ownBlock → w3.heap[b]? = w1.heap[b]? := fun b hb hn => (HG3.out.block b (by omega) hn).trans (heap_push (w := w1) (o := .cells #[.slice ax n cx] 24) hb)
  refine ⟨own', .slice ax n cx, rfl, ⟨h0.symm, rfl, rfl, rfl⟩, by rw [hln.out]; rfl, rfl, by go_num, HO3.out, ?_, ?_, ?_, fun b hb hn => (hb2 b (by have := HG.out.size; omega) hn).trans (hb1 b hb)⟩
  · have hx := HX.out
    rcases hx.2 with ⟨e, h⟩ | ⟨g', cap, cur, e, q1, q2, q3, q4, q5, q6⟩
    · exact ⟨by rw [flat_length], .inl ⟨e, by rw [hln.out]; exact h⟩⟩
    · refine ⟨by rw [flat_length], .inr ⟨g', cap, cur, by rw [hln.out]; exact e, q1, ?_, by rw [hln.out]; exact q3, q4, q5, by rw [hln.out]; exact q6⟩⟩
      have hlt := (Array.getElem?_eq_some_iff.1 q2).1
      rw [hb2 g' hlt ?_, q2]
      intro hn
      have hh := hown.out.lt g' hn.symm
      omega
  · rcases HL3.out with h | h
    · exact .inl h
    · exact .inr ⟨_, h, by have := HG.out.size; simp; omega⟩
  · have := HG.out.size; have := HG3.out.size; simp at this; omega
set_option maxHeartbeats 2000000 in
theorem round_none (u : Nat → Value) (tl : Addr) (nl cl cnt i base : Nat) (own : Value) (xs : List Value) (w : World) (h0 : u 0 = .slice (some tl) nl cl) (h8 : u 8 = .int .i64 cnt) (h9 : u 9 = own) (h10 : u 10 = .int .i64 i) (hi : i < nl) (hn : nl ≤ 110)
    (hcell : w.cell? (tl.add i) = some (.slice none 0 0)) (h200 : cnt ≤ 200) (hown : Hid (w.ownsRow base 24 1 own i xs)) (hb : base ≤ w.heap.size) :
    l3.wp Tryd.prog (fun e a' w' => e = .normal ∧ a'.defers = [] ∧ RoundQ u own base i cnt xs [] w a'.tmps w') ⟨T3 u, []⟩ w := by
  simp only [l3, body, w3, m3, r3, b3, fst, snd, Tryd.f3, Option.getD, T3, h0, h8, h9, h10]
  have k1 : (i : Int) < nl := by omega
  have k3 : ¬ (cnt : Int) > 200 := by omega
  obtain ⟨i1, gi, gz0, gz1, gz2⟩ := info24
  have Gi := hide gi; have Gz0 := hide gz0; have Gz1 := hide gz1; have Gz2 := hide gz2
  clear gi gz0 gz1 gz2
  go_wp2_with (at_builtin; refine wpList_append_own_at _ rfl _ _ 22 rfl base 24 i1 (.slice none 0 0) 1 24 Tryd.underlying22 Gi.out Gz0.out Gz1.out Gz2.out rfl (by decide) _ _ _ rfl (hown.out.alloc _) ⟨w.heap.size, 0, none⟩ 1 1 [.slice none 0 0] rfl rfl ?c1 ?c2 ?c3 ?c4 ?c5 ?_)
  case c2 => rfl
  case c3 => unfold maxLen; omega
  case c4 => omega
  case c5 => omega
  intro own' w3 hown' hgrow _ hloc
  have HO3 := hide hown'; have HG3 := hide hgrow; have HL3 := hide hloc
  clear hown' hgrow hloc
  go_wp2
  have hn1 : w.heap.size + 1 = (w.alloc (.cells #[.slice none 0 0] 24)).heap.size := by simp
  have hb2 : ∀ b, b < w.heap.size → some b ≠ own.ownBlock → w3.heap[b]? = w.heap[b]? := fun b hb hn => (HG3.out.block b (by omega) hn).trans (heap_push (w := w) (o := .cells #[.slice none 0 0] 24) hb)
  refine ⟨own', .slice none 0 0, rfl, ⟨h0.symm, rfl, rfl, rfl⟩, by simp, rfl, by go_num, HO3.out, ?_, ?_, ?_, hb2⟩
  · exact World.ownsRow_nil _ _ _ _
  · rcases HL3.out with h | h
    · exact .inl h
    · exact .inr ⟨_, h, by simp⟩
  · have := HG3.out.size; simp at this; omega
/-- What a test leaves. -/
def TestQ (u : Nat → Value) (s : Nat) (b : Bool) (w : World) (t : Array Value) (w' : World) : Prop :=
  t.size = 138 ∧ (t.getD 0 undef = u 0 ∧ t.getD 1 undef = u 1 ∧ t.getD 2 undef = u 2 ∧ t.getD 6 undef = u 6 ∧ t.getD 8 undef = u 8 ∧ t.getD 9 undef = u 9 ∧ t.getD 10 undef = u 10) ∧ t.getD s undef = .bool b ∧ ∀ b, b < w.heap.size → w'.heap[b]? = w.heap[b]?
/-- 'is there another list?' -/
noncomputable def t7 : Code := fst (fst l3)
/-- 'is it too long?', and all that is done with a list. -/
noncomputable def x3 : Code := body (fst (snd l3))
noncomputable def t9 : Code := fst (fst x3)
set_option maxHeartbeats 1000000 in
theorem test7 (u : Nat → Value) (tl : Option Addr) (nl cl i : Nat) (w : World) (h0 : u 0 = .slice tl nl cl) (h10 : u 10 = .int .i64 i) (b : Bool) (hb : decide (i < nl) = b) :
    t7.wp Tryd.prog (fun e a' w' => e = .normal ∧ a'.defers = [] ∧ TestQ u 33 b w a'.tmps w') ⟨T3 u, []⟩ w := by
  simp only [t7, l3, body, w3, m3, r3, b3, fst, snd, Tryd.f3, Option.getD, T3, h0, h10]
  go_wp2
  refine ⟨rfl, ⟨h0.symm, rfl, rfl, rfl, rfl, rfl, h10.symm⟩, ?_, fun _ _ => rfl⟩
  show Value.bool _ = _
  rw [← hb]
set_option maxHeartbeats 1000000 in
theorem test9 (u : Nat → Value) (tl : Addr) (a : Option Addr) (nl cl n c cnt i : Nat) (w : World) (h0 : u 0 = .slice (some tl) nl cl) (h8 : u 8 = .int .i64 cnt) (h10 : u 10 = .int .i64 i) (hi : i < nl) (hcell : w.cell? (tl.add i) = some (.slice a n c)) (hlong : 130 < n ∨ 200 < cnt) :
    t9.wp Tryd.prog (fun e a' w' => e = .normal ∧ a'.defers = [] ∧ TestQ u 45 true w a'.tmps w') ⟨T3 u, []⟩ w := by
  simp only [t9, x3, l3, body, w3, m3, r3, b3, fst, snd, Tryd.f3, Option.getD, T3, h0, h8, h10]
  by_cases k2 : (n : Int) > 130
  · go_wp2
    exact ⟨rfl, ⟨h0.symm, rfl, rfl, rfl, h8.symm, rfl, h10.symm⟩, rfl, fun _ _ => rfl⟩
  · have k3 : (cnt : Int) > 200 := by omega
    go_wp2
    exact ⟨rfl, ⟨h0.symm, rfl, rfl, rfl, h8.symm, rfl, h10.symm⟩, rfl, fun _ _ => rfl⟩
end Px
end Go.Proofs.YtbkjjknlphlhlaaDoor
namespace Go.Proofs.YtbkjjknlphlhlaaDoor
namespace Px
open Go.Conc Go.ConcN Sim Sin Sf Mc Hd Mb Ev
open Go.RowKit
set_option maxRecDepth 100000

/-! ### steps -/
section
variable {Z : Nat → Prop} {Stop : Goroutine → World → Prop} {w : World} {a : Act} {k : List Item} {cs : List Frame} {x y : Code} {q : Bool} {n id : Nat}
theorem w_seq (h : Wd Tryd.prog Z Stop (G ((fr0 3).at a (.code x :: .code y :: k)) cs) w) : Wd Tryd.prog Z Stop (G ((fr0 3).at a (.code (.seq x y) :: k)) cs) w := wd_same rfl (fun _ => by simp [stepG, stepG.exec, G, Frame.at, fr0]) h
theorem w_cond (hq : a.tmps.getD n undef = .bool q) (h : Wd Tryd.prog Z Stop (G ((fr0 3).at a (.code (if q then x else y) :: k)) cs) w) : Wd Tryd.prog Z Stop (G ((fr0 3).at a (.code (.cond (.tmp n) x y) :: k)) cs) w := wd_same rfl (fun _ => by
  exact stepG_cond (b := fr0 3) (c := .tmp n) hq) h
theorem w_skip (h : Wd Tryd.prog Z Stop (G ((fr0 3).at a k) cs) w) : Wd Tryd.prog Z Stop (G ((fr0 3).at a (.code .skip :: k)) cs) w := wd_same rfl (fun _ => by simp [stepG, stepG.exec, G, Frame.at, fr0]) h
theorem w_block (h : Wd Tryd.prog Z Stop (G ((fr0 3).at a (.code x :: .inBlock id :: k)) cs) w) : Wd Tryd.prog Z Stop (G ((fr0 3).at a (.code (.block id x) :: k)) cs) w := wd_same rfl (fun _ => by simp [stepG, stepG.exec, G, Frame.at, fr0]) h
theorem w_loop (h : Wd Tryd.prog Z Stop (G ((fr0 3).at a (.code x :: .inLoop x :: k)) cs) w) : Wd Tryd.prog Z Stop (G ((fr0 3).at a (.code (.loop x) :: k)) cs) w := wd_same rfl (fun _ => by simp [stepG, stepG.exec, G, Frame.at, fr0]) h
theorem w_again (h : Wd Tryd.prog Z Stop (G ((fr0 3).at a (.code x :: .inLoop x :: k)) cs) w) : Wd Tryd.prog Z Stop (G ((fr0 3).at a (.inLoop x :: k)) cs) w := wd_same rfl (fun _ => by simp [stepG, stepG.exec, G, Frame.at, fr0]) h
theorem w_exit {k' : List Item} (he : exitTo id k = some k') (h : Wd Tryd.prog Z Stop (G ((fr0 3).at a k') cs) w) : Wd Tryd.prog Z Stop (G ((fr0 3).at a (.code (.exit id) :: k)) cs) w := wd_same rfl (fun _ => by simp [stepG, stepG.exec, G, Frame.at, fr0, he]) h
theorem w_ret (h : Wd Tryd.prog Z Stop (G { (fr0 3).at a (.code .ret :: k) with mode := .returning } cs) w) : Wd Tryd.prog Z Stop (G ((fr0 3).at a (.code .ret :: k)) cs) w := wd_same rfl (fun _ => by simp [stepG, stepG.exec, G, Frame.at, fr0]) h
end

/-! ### pieces of the law -/
/-- The slots of the lone run. -/
noncomputable def ul (Z : Nat → Prop) (w : World) (tr : Array Value) (j : Nat) : Value := (tr.map (san S3 (Dz Z w))).getD j undef
theorem ul_is {Z : Nat → Prop} {w : World} {tr : Array Value} (h : tr.size = 138) : T3 (ul Z w tr) = tr.map (san S3 (Dz Z w)) := (T3_of (by simpa using h)).symm
theorem ul_key {Z : Nat → Prop} {w : World} {tr : Array Value} {j : Nat} {v : Value} (hj : j < tr.size) (h : tr.getD j undef = v) (hv : Nice S3 (Dz Z w) v) : ul Z w tr j = v := by
  have e : tr[j] = v := by simpa [Array.getD, hj] using h
  simp [ul, Array.getD, hj, e, san_self hv]
theorem right_key {m : Ren} {t tr : Array Value} {j : Nat} {v : Value} (hm : Own m) (hv : VRs S3 m t tr) (h : t.getD j undef = v) (hs : Sure S3 v v) : tr.getD j undef = v := hs m _ hm (h ▸ hv.getD j)
section
variable {Z : Nat → Prop} {Stop : Goroutine → World → Prop} {w : World} {tr : Array Value} {K : List Item} {c : Code} {Qa : Array Value → World → Prop}
theorem piece3 (hc : Sin.codeB Tryd.prog S3 true c = true) (hM : Mz Tryd.prog Z w) (hs : tr.size = 138) (h : ∀ T d, c.wp Tryd.prog (fun e a' w' => e = .normal ∧ a'.defers = [] ∧ Qa a'.tmps w') ⟨T3 (ul Z w tr), []⟩ (World.on (Lw S3 Z w) T d)) (hQ : ∀ t w T d, Qa t w → Qa t (World.on w T d))
    (k : ∀ m t' tr' wl w', Aft S3 Z w wl w' m → VRs S3 m t' tr' → Qa t' wl → Wd Tryd.prog Z Stop (G ((fr0 3).at ⟨tr', []⟩ K) []) w') : Wd Tryd.prog Z Stop (G ((fr0 3).at ⟨tr, []⟩ (.code c :: K)) []) w :=
  piece s3_ok hc (.inl rfl) hM (ul_is hs ▸ san_rows tr) h hQ k
end
/-- What the loop knows of slots. -/
structure Keys (tr : Array Value) (tl : Option Addr) (nl cl : Nat) (ref k : Int) (cnt i : Nat) (own : Value) : Prop where
  size : tr.size = 138
  k0 : tr.getD 0 undef = .slice tl nl cl
  k1 : tr.getD 1 undef = .int .i64 ref
  k2 : tr.getD 2 undef = .int .i64 k
  k6 : tr.getD 6 undef = .bool false
  k8 : tr.getD 8 undef = .int .i64 cnt
  k9 : tr.getD 9 undef = own
  k10 : tr.getD 10 undef = .int .i64 i
/-- .. and of the world. -/
structure Lp (W : World) (Z : Nat → Prop) (base : Nat) (Ls : Nat → List Cv.Lot) (i : Nat) (own : Value) (xs : List Value) (w : World) : Prop where
  mz : Mz Tryd.prog Z w
  own : w.ownsRow base 24 1 own i xs
  rows : ∀ j, j < i → ∃ x, xs[j]? = some x ∧ Lrow w base x (Ls j)
  old : ∀ b, b < base → w.heap[b]? = W.heap[b]?
  size : base ≤ w.heap.size
  os : w.os = W.os
  output : w.output = W.output
  low : ∀ b, Z b → b < base
/-- What came in. -/
structure Args (W : World) (Z : Nat → Prop) (base : Nat) (tl : Option Addr) (nl : Nat) (V : Nat → Value) (Ls : Nat → List Cv.Lot) : Prop where
  at_ : ∀ ta, tl = some ta → ta.block < base ∧ Dz Z W ta.block
  cell : ∀ i, i < nl → ∃ ta, tl = some ta ∧ W.cell? (ta.add i) = some (V i)
  list : ∀ i, i < nl → (V i = .slice none 0 0 ∧ Ls i = []) ∨ ∃ g c, V i = .slice (some g) (Ls i).length c ∧ (g.block < base ∧ Dz Z W g.block ∨ Ls i = [] ∧ c = 0) ∧ ∀ j u, (flat (Ls i))[j]? = some u → W.cell? (g.add j) = some u
theorem add_block (g : Addr) (j : Nat) : (g.add j).block = g.block := by unfold Addr.add; split <;> rfl
theorem flat_int {l : List Cv.Lot} {u : Value} (h : u ∈ flat l) : ∃ n, u = .int .i64 n := by
  obtain ⟨x, _, hx⟩ := List.mem_flatMap.1 h
  simp only [lotCells, List.mem_cons, List.not_mem_nil, or_false] at hx
  rcases hx with rfl | rfl | rfl | rfl | rfl <;> exact ⟨_, rfl⟩
section
variable {W w : World} {Z : Nat → Prop} {base : Nat} {tl : Option Addr} {nl cl : Nat} {V : Nat → Value} {Ls : Nat → List Cv.Lot} {i : Nat} {own : Value} {xs : List Value}
theorem Lp.dz (h : Lp W Z base Ls i own xs w) {b : Nat} (hb : b < base) (hd : Dz Z W b) : Dz Z w b := ⟨hd.1, by rw [h.old b hb]; exact hd.2⟩
theorem Lp.cellA (h : Lp W Z base Ls i own xs w) {a : Addr} {v : Value} (hb : a.block < base) (hv : W.cell? a = some v) : w.cell? a = some v := (cell_heap (h.old _ hb)).trans hv
/-- A list's header, for the lone run. -/
theorem Lp.header (h : Lp W Z base Ls i own xs w) (hA : Args W Z base tl nl V Ls) {j : Nat} (hj : j < nl) : ∃ ta, tl = some ta ∧ Nice S3 (Dz Z w) (.slice tl nl cl) ∧ (Lw S3 Z w).cell? (ta.add j) = some (V j) ∧ w.cell? (ta.add j) = some (V j) := by
  obtain ⟨ta, e, hc⟩ := hA.cell j hj
  subst e
  obtain ⟨hb, hd⟩ := hA.at_ ta rfl
  have hw : w.cell? (ta.add j) = some (V j) := h.cellA (by rw [add_block]; exact hb) hc
  refine ⟨ta, rfl, nice_slice _ _ (h.dz hb hd), lw_cell hw ?_, hw⟩
  rcases hA.list j hj with ⟨e, _⟩ | ⟨g, c, e, ⟨hb, hd⟩ | ⟨h0, rfl⟩, _⟩
  · rw [e]; exact nice_nils _ _
  · rw [e]; exact nice_slice _ _ (h.dz hb hd)
  · rw [e, h0]; exact nice_ghost _
theorem Lp.nice_own (h : Lp W Z base Ls i own xs w) : Nice S3 (Dz Z w) own := by
  rcases h.own.2 with ⟨rfl, _⟩ | ⟨g, cap, cur, rfl, hb, hg, _⟩
  · exact nice_nils _ _
  · exact nice_slice _ _ ⟨fun hz => by have := h.low g hz; omega, _, _, _, hg⟩
theorem Lrow.nice {x : Value} {l : List Cv.Lot} (hx : Lrow w base x l) (low : ∀ b, Z b → b < base) : Nice S3 (Dz Z w) x := by
  rcases hx.2 with ⟨rfl, _⟩ | ⟨g, cap, cur, rfl, hb, hg, _⟩
  · exact nice_nils _ _
  · exact nice_slice _ _ ⟨fun hz => by have := low g hz; omega, _, _, _, hg⟩
theorem Lp.mem (h : Lp W Z base Ls i own xs w) : ∀ x ∈ xs, ∃ j, j < i ∧ Lrow w base x (Ls j) := fun x hx => by
  obtain ⟨j, hj, e⟩ := List.mem_iff_getElem.1 hx
  have hl : xs.length = i := by rw [h.own.1, Nat.mul_one]
  obtain ⟨x', e1, h1⟩ := h.rows j (by omega)
  rw [List.getElem?_eq_getElem hj, e] at e1
  cases e1
  exact ⟨j, by omega, h1⟩
theorem Lp.lw (h : Lp W Z base Ls i own xs w) : (Lw S3 Z w).ownsRow base 24 1 own i xs := lw_row h.own fun x hx => by
  obtain ⟨j, _, hr⟩ := h.mem x hx
  exact hr.nice h.low
end
noncomputable def y3 : Code := snd x3
noncomputable def r8 : Code := snd (snd l3)
noncomputable def q10 : Code := match snd (fst x3) with | .cond _ a _ => a | c => c
theorem l3_is : l3 = .seq (.seq t7 (.cond (.tmp 33) .skip (.exit 0))) (.seq (.block 1 x3) r8) ∧ True := ⟨by kernel_rfl, trivial⟩
theorem x3_is : x3 = .seq (.seq t9 (.cond (.tmp 45) q10 .skip)) y3 ∧ True := ⟨by kernel_rfl, trivial⟩
theorem q10_is : q10 = .seq (fst q10) .ret ∧ True := ⟨by kernel_rfl, trivial⟩
theorem ok_l3 : Sin.codeB Tryd.prog S3 true l3 = true ∧ Sin.codeB Tryd.prog S3 true t7 = true ∧ Sin.codeB Tryd.prog S3 true t9 = true ∧ Sin.codeB Tryd.prog S3 true (fst q10) = true := ⟨by kernel_rfl, by kernel_rfl, by kernel_rfl, by kernel_rfl⟩
/-- The law's answer is laid. -/
theorem yes10 (u : Nat → Value) (w : World) : (fst q10).wp Tryd.prog (fun e a' w' => e = .normal ∧ a'.defers = [] ∧ a'.tmps.getD 6 undef = .bool true ∧ ∀ b, b < w.heap.size → w'.heap[b]? = w.heap[b]?) ⟨T3 u, []⟩ w := by
  simp only [q10, x3, l3, body, w3, m3, r3, b3, fst, snd, Tryd.f3, Option.getD, T3]
  go_wp2
/-- Nothing old has been turned. -/
structure Same (W : World) (Z : Nat → Prop) (base : Nat) (w : World) : Prop where
  old : ∀ b, b < base → w.heap[b]? = W.heap[b]?
  os : w.os = W.os
  output : w.output = W.output
  size : base ≤ w.heap.size
section
variable {W : World} {Z : Nat → Prop} {Stop : Goroutine → World → Prop} {base : Nat} {tl : Option Addr} {nl cl : Nat} {ref k : Int} {V : Nat → Value} {Ls : Nat → List Cv.Lot}
/-- A test leaves all that is known. -/
theorem test_keys {w wl w' : World} {m : Ren} {tr t' tr' : Array Value} {cnt i s : Nat} {b : Bool} {own : Value} (hK : Keys tr tl nl cl ref k cnt i own) (ha : Aft S3 Z w wl w' m) (hv : VRs S3 m t' tr') (hq : TestQ (ul Z w tr) s b (Lw S3 Z w) t' wl)
    (h0 : Nice S3 (Dz Z w) (.slice tl nl cl)) (h9 : Nice S3 (Dz Z w) own) : Keys tr' tl nl cl ref k cnt i own ∧ tr'.getD s undef = .bool b ∧ ∀ b, b < w.heap.size → w'.heap[b]? = w.heap[b]? := by
  obtain ⟨q1, ⟨q2, q3, q4, q5, q6, q7, q8⟩, q9, q10⟩ := hq
  have hz := hK.size
  rw [ul_key (by omega) hK.k0 h0] at q2
  rw [ul_key (by omega) hK.k1 (nice_int _ _)] at q3
  rw [ul_key (by omega) hK.k2 (nice_int _ _)] at q4
  rw [ul_key (by omega) hK.k6 (nice_bool _)] at q5
  rw [ul_key (by omega) hK.k8 (nice_int _ _)] at q6
  rw [ul_key (by omega) hK.k9 h9] at q7
  rw [ul_key (by omega) hK.k10 (nice_int _ _)] at q8
  exact ⟨⟨hv.1 ▸ q1, right_key ha.own hv q2 h0.2, right_key ha.own hv q3 (sure_int _ _), right_key ha.own hv q4 (sure_int _ _), right_key ha.own hv q5 (sure_bool _), right_key ha.own hv q6 (sure_int _ _), right_key ha.own hv q7 h9.2, right_key ha.own hv q8 (sure_int _ _)⟩, right_key ha.own hv q9 (sure_bool _), fun b hb => ha.keep hb (q10 b (by rw [lw_size]; exact hb))⟩
theorem Lp.same {w w' : World} {i : Nat} {own : Value} {xs : List Value} (h : Lp W Z base Ls i own xs w) {wl : World} {m : Ren} (ha : Aft S3 Z w wl w' m) (hk : ∀ b, b < w.heap.size → w'.heap[b]? = w.heap[b]?) : Lp W Z base Ls i own xs w' := by
  have row : ∀ {e s n v} {ys : List Value}, w.ownsRow base e s v n ys → w'.ownsRow base e s v n ys := fun {e s n v ys} hr => by
    refine ⟨hr.1, ?_⟩
    rcases hr.2 with h | ⟨g, cap, cur, e1, hb, hg, h1⟩
    · exact .inl h
    · exact .inr ⟨g, cap, cur, e1, hb, (hk g (Array.getElem?_eq_some_iff.1 hg).1).trans hg, h1⟩
  exact ⟨ha.mz h.mz, row h.own, fun j hj => by obtain ⟨x, e, hr⟩ := h.rows j hj; exact ⟨x, e, row hr⟩, fun b hb => (hk b (Nat.lt_of_lt_of_le hb h.size)).trans (h.old b hb), Nat.le_trans h.size ha.size, ha.mx.os.trans h.os, ha.mx.output.trans h.output, h.low⟩
theorem nice_tl {w : World} {i : Nat} {own : Value} {xs : List Value} (h : Lp W Z base Ls i own xs w) (hA : Args W Z base tl nl V Ls) : Nice S3 (Dz Z w) (.slice tl nl cl) := by
  cases tl with
  | none => exact nice_nils _ _
  | some ta => exact nice_slice _ _ (h.dz (hA.at_ ta rfl).1 (hA.at_ ta rfl).2)
end
end Px
end Go.Proofs.YtbkjjknlphlhlaaDoor
namespace Go.Proofs.YtbkjjknlphlhlaaDoor
namespace Px
open Go.Conc Go.ConcN Sim Sin Sf Mc Hd Mb Ev
open Go.RowKit
set_option maxRecDepth 100000
section
variable {W : World} {Z : Nat → Prop} {Stop : Goroutine → World → Prop} {base : Nat} {tl : Option Addr} {nl cl : Nat} {ref k : Int} {V : Nat → Value} {Ls : Nat → List Cv.Lot}
/-- 'return true' from within the loop. -/
theorem early {w : World} {tr : Array Value} {K : List Item} (hM : Mz Tryd.prog Z w) (hs : tr.size = 138) (hb : base ≤ w.heap.size) (old : ∀ b, b < base → w.heap[b]? = W.heap[b]?) (os : w.os = W.os) (out : w.output = W.output)
    (next : ∀ g w', End3 g → Same W Z base w' → Wd Tryd.prog Z Stop g w') : Wd Tryd.prog Z Stop (G ((fr0 3).at ⟨tr, []⟩ (.code q10 :: K)) []) w := by
  rw [q10_is.1]
  refine w_seq (piece3 ok_l3.2.2.2 hM hs (Qa := fun t w' => t.getD 6 undef = .bool true ∧ ∀ b, b < w.heap.size → w'.heap[b]? = (Lw S3 Z w).heap[b]?) (fun T d => ?_) (fun _ _ _ _ h => h) ?_)
  · have := yes10 (ul Z w tr) (World.on (Lw S3 Z w) T d)
    simp only [show (World.on (Lw S3 Z w) T d).heap.size = w.heap.size from lw_size] at this
    exact this
  · rintro m t' tr' wl w' ha hv ⟨q1, q2⟩
    refine w_ret (next _ w' ⟨tr', _, rfl, right_key ha.own hv q1 (sure_bool _)⟩ ⟨fun b hb' => (ha.keep (by omega) (q2 b (by omega))).trans (old b hb'), ha.mx.os.trans os, ha.mx.output.trans out, Nat.le_trans hb ha.size⟩)
theorem exit_is : exitTo 0 (.code (.seq (.block 1 x3) r8) :: .inLoop l3 :: .inBlock 0 :: [.code e3]) = some [.code e3] := by simp [exitTo]
/-- ████ -/
theorem loop_any (hA : Args W Z base tl nl V Ls) (hn : nl ≤ 110)
    (done : ∀ w tr own xs cnt, Keys tr tl nl cl ref k cnt nl own → Lp W Z base Ls nl own xs w → Wd Tryd.prog Z Stop (G ((fr0 3).at ⟨tr, []⟩ [.code e3]) []) w)
    (next : ∀ g w', End3 g → Same W Z base w' → Wd Tryd.prog Z Stop g w') : ∀ (r i : Nat) (w : World) (tr : Array Value) (own : Value) (xs : List Value) (cnt : Nat), nl - i ≤ r → i ≤ nl → Keys tr tl nl cl ref k cnt i own → Lp W Z base Ls i own xs w →
      Wd Tryd.prog Z Stop (G ((fr0 3).at ⟨tr, []⟩ (.code l3 :: .inLoop l3 :: .inBlock 0 :: [.code e3])) []) w := by
  intro r
  induction r using Nat.strongRecOn with
  | ind r ih =>
    intro i w tr own xs cnt hr hi hK hL
    have h0 := nice_tl (cl := cl) hL hA
    have h9 := hL.nice_own
    have hz := hK.size
    have u0 := ul_key (Z := Z) (w := w) (by omega) hK.k0 h0
    have u8 := ul_key (Z := Z) (w := w) (by omega) hK.k8 (nice_int _ _)
    have u9 := ul_key (Z := Z) (w := w) (by omega) hK.k9 h9
    have u10 := ul_key (Z := Z) (w := w) (by omega) hK.k10 (nice_int _ _)
    -- to the test
    have test : ∀ b, decide (i < nl) = b → (∀ w' tr', Keys tr' tl nl cl ref k cnt i own → Lp W Z base Ls i own xs w' → tr'.getD 33 undef = .bool b → Wd Tryd.prog Z Stop (G ((fr0 3).at ⟨tr', []⟩ (.code (.cond (.tmp 33) .skip (.exit 0)) :: .code (.seq (.block 1 x3) r8) :: .inLoop l3 :: .inBlock 0 :: [.code e3])) []) w') → Wd Tryd.prog Z Stop (G ((fr0 3).at ⟨tr, []⟩ (.code l3 :: .inLoop l3 :: .inBlock 0 :: [.code e3])) []) w := fun b hb k' => by
      rw [show Item.code l3 = Item.code (.seq (.seq t7 (.cond (.tmp 33) .skip (.exit 0))) (.seq (.block 1 x3) r8)) from congrArg _ l3_is.1]
      refine w_seq (w_seq (piece3 (Qa := TestQ (ul Z w tr) 33 b (Lw S3 Z w)) ok_l3.2.1 hL.mz hz (fun T d => test7 (ul Z w tr) tl nl cl i (World.on (Lw S3 Z w) T d) u0 u10 b hb) (fun _ _ _ _ h => h) ?_))
      intro m t' tr' wl w' ha hv hq
      obtain ⟨q1, q2, q3⟩ := test_keys hK ha hv hq h0 h9
      exact k' w' tr' q1 (hL.same ha q3) q2
    by_cases hlt : i < nl
    · obtain ⟨ta, e, _, hc, _⟩ := hL.header (cl := cl) hA hlt
      subst e
      by_cases hlong : 130 < (Ls i).length ∨ 200 < cnt
      · refine test true (by simp [hlt]) fun w1 tr1 K1 L1 q1 => w_cond q1 (w_skip (w_seq (w_block ?_)))
        have h0' := nice_tl (cl := cl) L1 hA
        have h9' := L1.nice_own
        have hz' := K1.size
        obtain ⟨ta', e', _, hc', _⟩ := L1.header (cl := cl) hA hlt
        cases e'
        obtain ⟨a, c, hV⟩ : ∃ a c, V i = .slice a (Ls i).length c := by
          rcases hA.list i hlt with ⟨e, h⟩ | ⟨g, c, e, _⟩
          · exact ⟨none, 0, by rw [e, h]; rfl⟩
          · exact ⟨_, _, e⟩
        rw [hV] at hc'
        rw [show Item.code x3 = Item.code (.seq (.seq t9 (.cond (.tmp 45) q10 .skip)) y3) from congrArg _ x3_is.1]
        refine w_seq (w_seq (piece3 (Qa := TestQ (ul Z w1 tr1) 45 true (Lw S3 Z w1)) ok_l3.2.2.1 L1.mz hz' (fun T d => test9 (ul Z w1 tr1) ta a nl cl (Ls i).length c cnt i (World.on (Lw S3 Z w1) T d) (ul_key (by omega) K1.k0 h0') (ul_key (by omega) K1.k8 (nice_int _ _)) (ul_key (by omega) K1.k10 (nice_int _ _)) hlt hc' hlong) (fun _ _ _ _ h => h) ?_))
        intro m t' tr' wl w' ha hv hq
        obtain ⟨q1, q2, q3⟩ := test_keys K1 ha hv hq h0' h9'
        have L2 := L1.same ha q3
        exact w_cond q2 (early L2.mz q1.size L2.size L2.old L2.os L2.output next)
      · have hl1 : (Ls i).length ≤ 130 := by omega
        have hl2 : cnt ≤ 200 := by omega
        have hb : base ≤ (Lw S3 Z w).heap.size := by rw [lw_size]; exact hL.size
        have round : ∀ T d, l3.wp Tryd.prog (fun e a' w' => e = .normal ∧ a'.defers = [] ∧ RoundQ (ul Z w tr) own base i cnt xs (Ls i) (Lw S3 Z w) a'.tmps w') ⟨T3 (ul Z w tr), []⟩ (World.on (Lw S3 Z w) T d) := fun T d => by
          rcases hA.list i hlt with ⟨e, h⟩ | ⟨g, c, e, hg, hl⟩
          · rw [h]
            exact round_none (ul Z w tr) ta nl cl cnt i base own xs (World.on (Lw S3 Z w) T d) u0 u8 u9 u10 hlt hn (e ▸ hc) hl2 hL.lw hb
          · exact round_some (ul Z w tr) ta g nl cl (Ls i).length c cnt i base own xs (Ls i) (World.on (Lw S3 Z w) T d) u0 u8 u9 u10 hlt hn rfl (e ▸ hc) (fun j u hu => lw_cell (hL.cellA (by
              rw [add_block]
              rcases hg with h | ⟨h, _⟩
              · exact h.1
              · rw [h] at hu; cases hu) (hl j u hu)) (by
              obtain ⟨n, rfl⟩ := flat_int (List.mem_of_getElem? hu)
              exact nice_int _ _)) hl1 hl2 hL.lw hb
        refine piece3 (Qa := RoundQ (ul Z w tr) own base i cnt xs (Ls i) (Lw S3 Z w)) ok_l3.1 hL.mz hz round (fun _ _ _ _ h => h) ?_
        rintro m t' tr' wl w' ha hv ⟨own', x, z1, ⟨z2, z3, z4, z5⟩, z6, z7, z8, z9, z10, z11, z12, z13⟩
        rw [u0] at z2
        rw [ul_key (by omega) hK.k1 (nice_int _ _)] at z3
        rw [ul_key (by omega) hK.k2 (nice_int _ _)] at z4
        rw [ul_key (by omega) hK.k6 (nice_bool _)] at z5
        rw [lw_size] at z10 z11 z12 z13
        have hnz : ∀ b, base ≤ b → ¬ Z b := fun b hb hzz => by have := hL.low b hzz; omega
        have hown' : Sure S3 own' own' := by
          rcases z9.2 with ⟨rfl, _⟩ | ⟨g, cap, cur, rfl, _⟩
          · exact sure_nils _ _
          · exact sure_slice _ _ _
        have hsx : Sure S3 x x := by
          rcases z10.2 with ⟨rfl, _⟩ | ⟨g, cap, cur, rfl, _⟩
          · exact sure_nils _ _
          · exact sure_slice _ _ _
        have oldrow : ∀ {e s n v} {ys : List Value}, w.ownsRow base e s v n ys → (∀ b, v.ownBlock = some b → some b ≠ own.ownBlock) → w'.ownsRow base e s v n ys := fun {e s n v ys} hr hne => by
          refine ⟨hr.1, ?_⟩
          rcases hr.2 with h | ⟨g, cap, cur, e1, hb, hg, h1⟩
          · exact .inl h
          · have hlt := (Array.getElem?_eq_some_iff.1 hg).1
            exact .inr ⟨g, cap, cur, e1, hb, (ha.keep hlt (z13 g hlt (hne g (by rw [e1]; rfl)))).trans hg, h1⟩
        have hxl : xs.length = i := by rw [hL.own.1, Nat.mul_one]
        have hxx : Lrow w' base x (Ls i) := by
          have := ha.row z10 (fun u hu => by obtain ⟨n, rfl⟩ := flat_int hu; exact sure_int _ _) (fun b hb => hnz b (Nat.le_trans hL.size (z10.lt b hb).1))
          refine ⟨this.1, this.2.imp id fun ⟨g, cap, cur, q1, q2, q3⟩ => ⟨g, cap, cur, q1, Nat.le_trans hL.size q2, q3⟩⟩
        have hown : w'.ownsRow base 24 1 own' (i + 1) (xs ++ [x]) := ha.row z9 (fun u hu => by
          rcases List.mem_append.1 hu with hu | hu
          · obtain ⟨j, _, hr⟩ := hL.mem u hu
            exact (hr.nice hL.low).2
          · rw [List.mem_singleton.1 hu]; exact hsx) (fun b hb => hnz b (z9.lt b hb).1)
        refine w_again (ih (r - 1) (by omega) (i + 1) w' tr' own' (xs ++ [x]) (cnt + (Ls i).length) (by omega) (by omega) ⟨hv.1 ▸ z1, right_key ha.own hv z2 h0.2, right_key ha.own hv z3 (sure_int _ _), right_key ha.own hv z4 (sure_int _ _), right_key ha.own hv z5 (sure_bool _), right_key ha.own hv (by rw [z6]; simp) (sure_int _ _), right_key ha.own hv z7 hown', right_key ha.own hv z8 (sure_int _ _)⟩ ⟨ha.mz hL.mz, hown, fun j hj => ?_, fun b hb' => ?_, Nat.le_trans hL.size ha.size, ha.mx.os.trans hL.os, ha.mx.output.trans hL.output, hL.low⟩)
        · by_cases hji : j < i
          · obtain ⟨y, e, hr⟩ := hL.rows j hji
            refine ⟨y, by rw [List.getElem?_append_left (by omega)]; exact e, oldrow hr fun b hb hbo => ?_⟩
            -- a row of lots is not the list's own row
            rcases hr.2 with ⟨h, _⟩ | ⟨g, cap, cur, e1, _, hg, _⟩
            · rw [h] at hb; cases hb
            · rw [e1] at hb; cases hb
              rcases hL.own.2 with ⟨h, _⟩ | ⟨g2, cap2, cur2, e2, _, hg2, _⟩
              · rw [h] at hbo; cases hbo
              · rw [e2] at hbo; cases hbo
                rw [hg] at hg2
                simp at hg2
          · obtain rfl : j = i := by omega
            exact ⟨x, by rw [List.getElem?_append_right (by omega)]; simp [hxl], hxx⟩
        · have hlt2 : b < w.heap.size := Nat.lt_of_lt_of_le hb' hL.size
          refine (ha.keep hlt2 (z13 b hlt2 fun hbo => ?_)).trans (hL.old b hb')
          have := (hL.own.lt b hbo.symm).1
          omega
    · obtain rfl : i = nl := by omega
      exact test false (by simp) fun w1 tr1 K1 L1 q1 => w_cond q1 (w_exit exit_is (done w1 tr1 own xs cnt K1 L1))
end
end Px
end Go.Proofs.YtbkjjknlphlhlaaDoor
