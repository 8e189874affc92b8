/- ████ A call of each, in the machine: from Prices entered to the rows. ████ -/
import Derived.Test.YtbkjjknlphlhlaaDoorZ45
namespace Go.Proofs.YtbkjjknlphlhlaaDoor
namespace Px
open Go.Conc Go.ConcN Sim Sin Sf Mc Hd Mb Ev
open Go.ConcR (WgAt)
open Go.RowKit
set_option maxRecDepth 100000

section
variable {w w5 : World} {Z : Nat → Prop} {tp : Option Addr} {n cp N : Nat} {ref k : Int} {f : Nat → Nat} {V : Array Value}
theorem In5.at (h : In5 w w5 Z tp n cp ref k N f V) (d : Nat) : In5 w (w5.at d) Z tp n cp ref k N f V :=
  ⟨h.N_eq, h.size, h.a1, h.a3, h.a5, h.a7, h.a8, h.bnd, h.ne, h.big, h.ref_, h.ints, h.tasks, h.do_, h.b7, h.b8, h.cn, h.cd, h.keep, h.os, h.output⟩
end
/-- What stands behind a call of each. -/
structure Behind (D Dw : Nat → Prop) (ad : Nat → Addr) (n : Nat) (ref : Int) (Ls : Nat → List Cv.Lot) (Z Z' : Nat → Prop) (w w' : World) (bl : Nat) (P : Nat → Int) (E : Nat → Value) (C : Nat → Nat → Prop) : Prop where
  sub : ∀ b, Z b → Z' b
  new : ∀ b, Z' b → Z b ∨ w.heap.size + 4 ≤ b
  keep : ∀ b, D b → w'.heap[b]? = w.heap[b]?
  os : w'.os = w.os
  output : w'.output = w.output
  size : w.heap.size ≤ w'.heap.size
  ref_ : w'.heap[w.heap.size]? = some (.cells #[.int .i64 ref] 3)
  ints : w'.heap[w.heap.size + 1]? = some (ints0 n)
  bl_ : ¬ Z' bl
  rows : ∃ cur, w'.heap[bl]? = some (.cells cur 55 (0, 0)) ∧ cur.size = 3 * n ∧ ∀ j, j < n → cur[3 * j]? = some (.int .i64 j) ∧ cur[3 * j + 1]? = some (.int .i64 (P j)) ∧ cur[3 * j + 2]? = some (E j)
  ans : ∀ j, j < n → Ans w' ad (Ls j) ref (P j) (E j) ∧ Closed (C j) w' ∧ VR S12 (idOn (C j)) (E j) (E j) ∧ ∀ b, C j b → ¬ Z' b
section
variable {gs : Array Goroutine} {w : World} {sl : Option (Nat × Nat)} {t : Trace} {Z D Dw : Nat → Prop} {c : Frame} {cs : List Frame} {tp : Option Addr} {n cp : Nat} {ref k : Int} {ad : Nat → Addr} {L : Nat → Value} {Ls : Nat → List Cv.Lot}
theorem each_phase (h : Ms Z gs w t) (h0 : gs[0]? = some (p0 c cs tp n cp ref k)) (hk : 1 ≤ k) (hk2 : k ≤ 16) (hn : n ≤ 100) (hD : ∀ b, D b → ¬ Z b ∧ b < w.heap.size) (hDw : ∀ b, Dw b → D b) (htp : ∀ ta, tp = some ta → D ta.block) (hW : Wf Dw ad tp n L Ls w) :
    Runs gs w sl t fun gs' w' _ t' => ∃ Z' bl P E C g m, Ms Z' gs' w' t' ∧ gs'[0]? = some g ∧ Still Tryd.prog true m g (G ((F11 tp n cp k w.heap.size (w.heap.size + 1)).finish (.slice (some ⟨bl, 0, none⟩) n n)) (F5 tp n cp ref k w.heap.size :: c :: cs)) ∧ Behind D Dw ad n ref Ls Z Z' w w' bl P E C := by
  refine (ms_wd (sl := sl) (Stop := fun g w5 => ∃ f V, In5 w w5 Z tp n cp ref k w.heap.size f V ∧ g = G ((fr0 22).at ⟨V, []⟩ (.inRegion ops83 [0] :: [.code eT2])) (F11 tp n cp k w.heap.size (w.heap.size + 1) :: F5 tp n cp ref k w.heap.size :: c :: cs)) h h0 (prices_in h.low hk hk2 hn fun w5 f V h5 => .stop fun d _ => ⟨f, V, h5.at d, rfl⟩)).then ?_
  rintro gs1 w5 sl1 t1 ⟨hm1, _, g1, hg1, f, V, h5, rfl⟩
  obtain ⟨q1, hL1⟩ := hm1.leav
  obtain ⟨n2, gs2, g2, w6, sl2, t2, q2, r1, r2, r3, ⟨V', d, hVT, rfl, rfl⟩, r5, r6, r7⟩ := wd_marks (Sh := ShZ Z) (B := w5.heap.size) (sl := sl1) (d0 := w5.drawn) hm1.pos (group_in (Stop := fun g w6 => ∃ V' d, VT w5.heap.size ⟨w.heap.size + 2, 0, none⟩ ⟨w.heap.size + 3, 0, none⟩ ⟨f 2, 0, none⟩ ⟨f 3, 0, none⟩ k V' ∧ g = Z6 (F11 tp n cp k w.heap.size (w.heap.size + 1)) (F5 tp n cp ref k w.heap.size :: c :: cs) V' ∧ w6 = (w5.at d).alloc (Go.ConcR.wgBlock 83 0 0)) h5 fun d V' _ hv => ⟨V', d, hv, rfl, rfl⟩) (Nat.le_refl _) hg1 hL1 hm1.hist rfl
  have sz6 : ((w5.at d).alloc (Go.ConcR.wgBlock 83 0 0)).heap.size = w5.heap.size + 1 := by show (w5.heap.push _).size = _; simp
  have old6 : ∀ b, b < w5.heap.size → ((w5.at d).alloc (Go.ConcR.wgBlock 83 0 0)).heap[b]? = w5.heap[b]? := fun b hb => heap_push (w := w5.at d) (o := Go.ConcR.wgBlock 83 0 0) hb
  have new6 : ((w5.at d).alloc (Go.ConcR.wgBlock 83 0 0)).heap[w5.heap.size]? = some (Go.ConcR.wgBlock 83 0 0) := by show (w5.heap.push _)[w5.heap.size]? = _; simp
  have os6 : ((w5.at d).alloc (Go.ConcR.wgBlock 83 0 0)).os = w5.os ∧ ((w5.at d).alloc (Go.ConcR.wgBlock 83 0 0)).output = w5.output := ⟨rfl, rfl⟩
  generalize (w5.at d).alloc (Go.ConcR.wgBlock 83 0 0) = w6 at sz6 old6 new6 os6 r1 r5 r7 ⊢
  have hbig := h5.big
  have lt6 : ∀ b, b < w.heap.size + 4 → w6.heap[b]? = w5.heap[b]? := fun b hb => old6 b (by omega)
  have keep6 : ∀ b, D b → w6.heap[b]? = w.heap[b]? := fun b hb => by
    have := hD b hb
    rw [lt6 b (by omega)]; exact h5.keep b this.2 this.1
  let D1 : Nat → Prop := fun b => Dw b ∨ b = w.heap.size
  let E : Env := { Wg := w5.heap.size, cn := f 0, cd := f 1, Low := w6.heap.size, b0 := gs2.size, p := t2.size, n := n, Base := fun b => D b ∨ b = w.heap.size ∨ b = w.heap.size + 1 ∨ b = w.heap.size + 2 ∨ b = w.heap.size + 3 ∨ b = f 2 ∨ b = f 3, Z := Z, W0 := w6, Rc := RcT D1 w6.heap.size ad Ls ref }
  have nz : ∀ b, w.heap.size ≤ b → ¬ Z b := fun b hb hz => by have := h.low b hz; omega
  have fb : ∀ i, i < 4 → w.heap.size + 4 ≤ f i ∧ f i < w5.heap.size := h5.bnd
  have hE : E.Ok := by
    have f0 := fb 0 (by decide); have f1 := fb 1 (by decide); have f2 := fb 2 (by decide); have f3 := fb 3 (by decide)
    have n02 := h5.ne 0 2 (by decide) (by decide) (by decide); have n03 := h5.ne 0 3 (by decide) (by decide) (by decide); have n12 := h5.ne 1 2 (by decide) (by decide) (by decide); have n13 := h5.ne 1 3 (by decide) (by decide) (by decide); have n01 := h5.ne 0 1 (by decide) (by decide) (by decide)
    refine ⟨fun b hb => ?_, by show w5.heap.size < w6.heap.size; omega, by show f 0 < w6.heap.size; omega, by show f 1 < w6.heap.size; omega, by show w5.heap.size ≠ f 0; omega, by show w5.heap.size ≠ f 1; omega, n01, fun b hb => ?_, ?_, rcT_one, rcT_keep⟩
    · show b < w6.heap.size ∧ b ≠ w5.heap.size ∧ b ≠ f 0 ∧ b ≠ f 1 ∧ ¬ Z b
      rcases hb with hb | rfl | rfl | rfl | rfl | rfl | rfl
      · have := hD b hb; exact ⟨by omega, by omega, by omega, by omega, this.1⟩
      · exact ⟨by omega, by omega, by omega, by omega, nz _ (by omega)⟩
      · exact ⟨by omega, by omega, by omega, by omega, nz _ (by omega)⟩
      · exact ⟨by omega, by omega, by omega, by omega, nz _ (by omega)⟩
      · exact ⟨by omega, by omega, by omega, by omega, nz _ (by omega)⟩
      · exact ⟨by omega, by omega, by omega, by omega, nz _ (by omega)⟩
      · exact ⟨by omega, by omega, by omega, by omega, nz _ (by omega)⟩
    · have := h.low b hb; show b < w6.heap.size; omega
    · show 1 ≤ gs2.size
      rw [r2]; exact hm1.pos
  have cell6 : ∀ {b : Nat} {v : Value} {ty : TypeId}, w5.heap[b]? = some (.cells #[v] ty) → b < w5.heap.size → w6.cell? ⟨b, 0, none⟩ = some v := fun {b v ty} e hb => by
    simp [World.cell?, old6 b hb, e]
  have f0 := fb 0 (by decide); have f1 := fb 1 (by decide); have f2 := fb 2 (by decide); have f3 := fb 3 (by decide)
  have hW6 : Wf Dw ad tp n L Ls w6 := hW.keep (fun b hb => keep6 b (hDw b hb)) fun ta e => keep6 _ (htp ta e)
  have h3 : Holds1 E ⟨w.heap.size + 2, 0, none⟩ (.slice tp n cp) := ⟨.inr (.inr (.inr (.inl rfl))), cell6 h5.tasks (by omega)⟩
  have h5' : Holds1 E ⟨w.heap.size + 3, 0, none⟩ (fv w.heap.size) := ⟨.inr (.inr (.inr (.inr (.inl rfl)))), cell6 h5.do_ (by omega)⟩
  have h7 : Holds1 E ⟨f 2, 0, none⟩ (.chan (some E.cn)) := ⟨.inr (.inr (.inr (.inr (.inr (.inl rfl))))), cell6 h5.b7 f2.2⟩
  have h8 : Holds1 E ⟨f 3, 0, none⟩ (.chan (some E.cd)) := ⟨.inr (.inr (.inr (.inr (.inr (.inr rfl))))), cell6 h5.b8 f3.2⟩
  have hD1 : ∀ b, D1 b → E.Base b := fun b hb => hb.imp (hDw b) .inl
  have sub1 : ∀ b, Dw b → D1 b := fun b hb => .inl hb
  have c6 : Closed D1 w6 := fun b hb => by
    rcases hb with hb | rfl
    · rcases hW6.closed b hb with h | ⟨a, l, e1, e2⟩
      · exact .inl h
      · exact .inr ⟨a, l, e1, .inl e2⟩
    · exact .inl ⟨_, _, _, (lt6 _ (by omega)).trans h5.ref_⟩
  have gl : Tryd.prog.globals.size = 13 := by kernel_rfl
  have hCall : ∀ i, i < n → CallW E ⟨w.heap.size + 2, 0, none⟩ ⟨w.heap.size + 3, 0, none⟩ ⟨f 2, 0, none⟩ ⟨f 3, 0, none⟩ (fv w.heap.size) (L i) i := fun i hi =>
    call_w (D := D1) (ad := ad) (Ls := Ls) (ref := ref) (ra := ⟨w.heap.size, 0, none⟩) rfl hD1 (fun g hg => .inl (hW.glob g (by omega))) c6 (fun b hb => by
      rcases hb with hb | rfl
      · exact hW6.cells b hb
      · exact ⟨_, _, _, (lt6 _ (by omega)).trans h5.ref_⟩) (.inr rfl) (cell6 h5.ref_ (by omega)) (sent_er hW6.sent) (fun g hg => .inl (hW.ads g hg)) (hW6.lots i hi).1 ((hW6.lots i hi).2.mono (idOn_le sub1))
  obtain ⟨n3, gs3, w7, sl3, t3, e1, e2⟩ := each_whole (E := E) (c := F11 tp n cp k w.heap.size (w.heap.size + 1)) (cs := F5 tp n cp ref k w.heap.size :: c :: cs) (k := k.toNat) (tp := tp) (cp := cp) (fv := fv w.heap.size) (L := L) (sl := sl2) (V := V') (B0 := w5.heap.size) hE h3 h5' h7 h8 (show n ≤ 1000000 by omega) (by omega) (by omega) (fun i hi => by
      obtain ⟨ta, e, hl⟩ := hW6.row i hi
      exact ⟨ta, e, .inl (by rw [show (ta.add i).block = ta.block by unfold Addr.add; split <;> rfl]; exact htp ta e), hl⟩) hCall (by rw [show ((k.toNat : Nat) : Int) = k by omega]; exact hVT) rfl rfl rfl (Nat.le_refl _) rfl r3 (show Hist (Sh E) w5.heap.size gs2.size t2 by rw [r2]; exact r6) ⟨q2, r5.old⟩ r5.above new6 ⟨0, 0, (old6 _ f0.2).trans h5.cn⟩ ⟨0, 0, (old6 _ f1.2).trans h5.cd⟩
  obtain ⟨g, m, bl, cur, g0, hst, hb1, hb2, hb3, hrow⟩ := e2.list
  have low7 : w6.heap.size ≤ w7.heap.size := e2.kn.low
  have kb : ∀ b, E.Base b → w7.heap[b]? = w6.heap[b]? := fun b hb => e2.kn.base b hb
  let Z' : Nat → Prop := fun b => Z b ∨ b = w5.heap.size
  have hZ' : ShZ Z' = Sh2 E := by
    funext l
    refine propext ⟨fun ⟨a, e, hz⟩ => hz.elim (fun hz => .inl ⟨a, e, hz⟩) fun hz => .inr ⟨a, e, hz⟩, fun h => ?_⟩
    rcases h with ⟨a, e, hz⟩ | ⟨a, e, hz⟩
    · exact ⟨a, e, .inl hz⟩
    · exact ⟨a, e, .inr hz⟩
  obtain ⟨F, hF⟩ := Classical.axiomOfChoice (r := fun (j : Nat) (x : Int × Value × (Nat → Prop)) => j < n → cur[3 * j]? = some (.int .i64 j) ∧ cur[3 * j + 1]? = some (.int .i64 x.1) ∧ cur[3 * j + 2]? = some x.2.1 ∧ Ans w7 ad (Ls j) ref x.1 x.2.1 ∧ Closed x.2.2 w7 ∧ VR S12 (idOn x.2.2) x.2.1 x.2.1 ∧ ∀ b, x.2.2 b → D1 b ∨ w6.heap.size ≤ b) fun j => by
    by_cases hj : j < n
    · obtain ⟨p, e, C, x1, x2, x3, p', rfl, y1, y2, y3, y4⟩ := hrow j hj
      exact ⟨⟨p', e, C⟩, fun _ => ⟨x1, x2, x3, y1, y2, y3, y4⟩⟩
    · exact ⟨⟨0, .nilIface, fun _ => False⟩, fun h => absurd h hj⟩
  have nz1 : ∀ b, E.Base b ∨ w6.heap.size ≤ b → ¬ Z' b := fun b hb hz => by
    rcases hb with hb | hb
    · have := hE.base b hb
      rcases hz with hz | rfl
      · exact this.2.2.2.2 hz
      · exact this.2.1 rfl
    · rcases hz with hz | rfl
      · have := h.low b hz; omega
      · omega
  refine ⟨n2 + n3, gs3, w7, sl3, t3, Go.ConcX.runNT_trans r1 e1, Z', bl, fun j => (F j).1, fun j => (F j).2.1, fun j => (F j).2.2, g, m, ⟨(Array.getElem?_eq_some_iff.1 g0).1, e2.leave.imp fun q hq => ⟨hq, e2.above⟩, hZ' ▸ e2.hist, fun b hb => ?_⟩, g0, hst, fun b hb => .inl hb, fun b hb => ?_, fun b hb => (kb b (.inl hb)).trans (keep6 b hb), e2.kn.os.trans (os6.1.trans h5.os), e2.kn.output.trans (os6.2.trans h5.output), by omega, ?_, ?_, nz1 bl hb2, ⟨cur, hb1, hb3, fun j hj => ⟨(hF j hj).1, (hF j hj).2.1, (hF j hj).2.2.1⟩⟩, fun j hj => ⟨(hF j hj).2.2.2.1, (hF j hj).2.2.2.2.1, (hF j hj).2.2.2.2.2.1, fun b hb => nz1 b ?_⟩⟩
  · rcases hb with hb | rfl
    · have := h.low b hb; omega
    · omega
  · rcases hb with hb | rfl
    · exact .inl hb
    · exact .inr (by omega)
  · rw [kb _ (.inr (.inl rfl)), lt6 _ (by omega)]; exact h5.ref_
  · rw [kb _ (.inr (.inr (.inl rfl))), lt6 _ (by omega)]; exact h5.ints
  · exact ((hF j hj).2.2.2.2.2.2 b hb).imp (hD1 b) id
end
end Px
end Go.Proofs.YtbkjjknlphlhlaaDoor
namespace Go.Proofs.YtbkjjknlphlhlaaDoor
namespace Px
open Go.Conc Go.ConcN Sim Sin Sf Mc Hd Mb Ev
open Go.RowKit
set_option maxRecDepth 100000

/-- What Prices gives, by what the lists are. -/
def Pg (w' : World) (n : Nat) (Ls : Nat → List Cv.Lot) (ref : Int) (ad : Nat → Addr) (v : Value) : Prop :=
  (∃ x P, v = .tuple #[x, .nilIface] ∧ (∀ j, j < n → Fine (Ls j) ref (P j)) ∧ IntsAt w' x n P ∧ Rowed w' x) ∨
  ∃ j J B, j < n ∧ J < 12 ∧ (∀ i, i < j → ∃ p, Fine (Ls i) ref p) ∧ Bad (Ls j) ref J ∧ v = .tuple #[.slice none 0 0, .iface 56 (.pointer (some ⟨B, 0, none⟩))] ∧ w'.cell? ⟨B, 0, none⟩ = some (.int .i64 j) ∧ w'.cell? ⟨B, 1, none⟩ = some (.iface 145 (.pointer (some (ad J))))
section
variable {w' : World} {ad : Nat → Addr} {n : Nat} {ref : Int} {Ls : Nat → List Cv.Lot} {P : Nat → Int} {E : Nat → Value}
theorem rows_at {bl : Nat} (h : ∃ cur : Array Value, w'.heap[bl]? = some (.cells cur 55 (0, 0)) ∧ cur.size = 3 * n ∧ ∀ j, j < n → cur[3 * j]? = some (.int .i64 j) ∧ cur[3 * j + 1]? = some (.int .i64 (P j)) ∧ cur[3 * j + 2]? = some (E j)) : RowsAt w' bl n P E := fun j hj => by
  obtain ⟨cur, h1, _, h3⟩ := h
  obtain ⟨x1, x2, x3⟩ := h3 j hj
  rw [Nat.mul_comm j 3]
  exact ⟨by simp [World.cell?, h1, x1], by simp [World.cell?, h1, x2], by simp [World.cell?, h1, x3]⟩
/-- From what answers gives to what the lists are. -/
theorem gave_pg {w7 : World} {base : Nat} {v : Value} (hk : ∀ j J, J < 12 → j < n → Ans w7 ad (Ls j) ref (P j) (E j)) (hg : Gave w' base n P E v) (hkept : Kept w7 w' base) (hne : ∀ j B x, j < n → E j = .iface 56 (.pointer (some ⟨B, 0, none⟩)) → w7.cell? ⟨B, 1, none⟩ = some (.iface 145 x) → B ≠ base) : Pg w' n Ls ref ad v := by
  have hk : ∀ j, j < n → Ans w7 ad (Ls j) ref (P j) (E j) := fun j hj => hk j 0 (by decide) hj
  have fine : ∀ j, j < n → E j = .nilIface → Fine (Ls j) ref (P j) := fun j hj e => by
    rcases ans_split (hk j hj) with ⟨_, h⟩ | ⟨J, _, _, h | ⟨B, h, _⟩⟩
    · exact h
    · rw [e] at h; cases h
    · rw [e] at h; cases h
  rcases hg with ⟨x, h1, h2, h3⟩ | ⟨j, a, B, hj, hnil, he, h1, h2, h3⟩
  · exact .inl ⟨x, P, h1, fun j hj => fine j hj (h2 j hj), h3⟩
  · rcases ans_split (hk j hj) with ⟨e, _⟩ | ⟨J, hJ, hbad, h⟩
    · rcases he with he | ⟨_, _, he, _⟩ <;> rw [e] at he <;> cases he
    · refine .inr ⟨j, J, B, hj, hJ, fun i hi => ⟨_, fine i (by omega) (hnil i hi)⟩, hbad, h1, h2, ?_⟩
      rw [h3]
      rcases h with h | ⟨B', h, hc⟩
      · rcases he with he | ⟨_, _, he, _⟩
        · rw [h] at he; cases he; rfl
        · rw [h] at he; cases he
      · rcases he with he | ⟨B2, _, he, hc2⟩
        · rw [h] at he; cases he
        · rw [h] at he; cases he
          have hb : B' ≠ base := hne j B' _ hj h hc
          have hlt : B' < w7.heap.size := World.block_lt_of_cell? _ _ hc
          rw [cell_heap (a := ⟨B', 1, none⟩) (hkept.2.2.2 B' hlt hb), hc] at hc2
          exact hc2.symm
end
section
variable {gs : Array Goroutine} {w : World} {sl : Option (Nat × Nat)} {t : Trace} {Z Dw : Nat → Prop} {c : Frame} {cs : List Frame} {tp : Option Addr} {n cp : Nat} {ref k : Int} {ad : Nat → Addr} {L : Nat → Value} {Ls : Nat → List Cv.Lot}
theorem prices_phase (h : Ms Z gs w t) (h0 : gs[0]? = some (p0 c cs tp n cp ref k)) (hk : 1 ≤ k) (hk2 : k ≤ 16) (hn : n ≤ 100) (hM : Mz Tryd.prog Z w) (hDw : ∀ b, Dw b → ¬ Z b) (ht : ∀ ta, tp = some ta → Dz Z w ta.block) (hW : Wf Dw ad tp n L Ls w) :
    Runs gs w sl t fun gs' w' _ t' => ∃ Z' v, Ms Z' gs' w' t' ∧ gs'[0]? = some (G (c.finish v) cs) ∧ Mz Tryd.prog Z' w' ∧ (∀ b, Z' b → Z b ∨ w.heap.size ≤ b) ∧ (∀ b, b < w.heap.size → ¬ Z b → w'.heap[b]? = w.heap[b]?) ∧ Pg w' n Ls ref ad v ∧ Out Z' v ∧ w'.os = w.os ∧ w'.output = w.output ∧ w.heap.size ≤ w'.heap.size := by
  have lt : ∀ b, Dz Z w b → b < w.heap.size := fun b hb => by obtain ⟨_, _, _, e⟩ := hb.2; exact (Array.getElem?_eq_some_iff.1 e).1
  have ltw : ∀ b, Dw b → b < w.heap.size := fun b hb => by obtain ⟨_, _, _, e⟩ := hW.cells b hb; exact (Array.getElem?_eq_some_iff.1 e).1
  refine (each_phase (sl := sl) (D := fun b => ¬ Z b ∧ b < w.heap.size) h h0 hk hk2 hn (fun b hb => hb) (fun b hb => ⟨hDw b hb, ltw b hb⟩) (fun ta e => ⟨(ht ta e).1, lt _ (ht ta e)⟩) hW).then ?_
  rintro gs1 w7 sl1 t1 ⟨Z', bl, P, E, C, g, m, hm, hg, hst, hB⟩
  have nz : ∀ b, b < w.heap.size → ¬ Z b → ¬ Z' b := fun b hb hz hz' => (hB.new b hz').elim hz (by omega)
  have dz : ∀ b, Dz Z w b → Dz Z' w7 b := fun b hb => ⟨nz b (lt b hb) hb.1, by rw [hB.keep b ⟨hb.1, lt b hb⟩]; exact hb.2⟩
  have hM7 : Mz Tryd.prog Z' w7 := ⟨fun g hg => dz g (hM.glob g hg), hm.low⟩
  have h13 : 13 < w.heap.size := lt 13 (hM.glob 13 (by decide))
  have h12 : w7.cell? ⟨12, 0, none⟩ = some (.iface 124 (.agg #[.pointer (some ⟨13, 27, none⟩)])) := (cell_heap (a := ⟨12, 0, none⟩) (hB.keep 12 ⟨(hM.glob 12 (by decide)).1, by omega⟩)).trans hW.sent.et
  have hcs : (madeCells #[.int .i64 0] (n * 1)).size = n := by rw [size_madeCells]; omega
  have hne : bl ≠ w.heap.size + 1 := fun e => by
    obtain ⟨cur, h1, _⟩ := hB.rows
    rw [e, hB.ints] at h1
    simp only [ints0, Option.some.injEq, Obj.cells.injEq] at h1
    exact absurd h1.2.1 (by decide)
  have hint : ∀ B x, w7.cell? ⟨B, 1, none⟩ = some (.iface 145 x) → B ≠ w.heap.size + 1 := fun B x hc e => by
    subst e
    simp only [World.cell?, hB.ints, ints0, madeCells] at hc
    simp only [Option.isSome_none, Bool.false_eq_true, if_false, Array.getElem?_map, Option.map_eq_some_iff] at hc
    obtain ⟨y, _, hy⟩ := hc
    rw [show (#[Value.int .i64 0] : Array Value).size = 1 from rfl, Nat.mod_one] at hy
    cases hy
  have had : ∀ J, J < 12 → Dz Z' w7 (ad J).block := fun J hJ => dz _ ⟨hDw _ (hW.ads J hJ), hW.cells _ (hW.ads J hJ)⟩
  have herr : ∀ j, j < n → E j = .nilIface ∨ ∃ a, ErrZ Z' w7 (w.heap.size + 1) (E j) a := fun j hj => by
    have hans := hB.ans j hj
    rcases ans_split hans.1 with ⟨e, _⟩ | ⟨J, hJ, _, e | ⟨B, e, hc⟩⟩
    · exact .inl e
    · exact .inr ⟨_, had J hJ, .inl e⟩
    · refine .inr ⟨_, had J hJ, .inr ⟨B, hint B _ hc, hans.2.2.2 B ?_, e, hc⟩⟩
      have hv := hans.2.2.1
      rw [e] at hv
      cases hv with
      | iface _ hv =>
        cases hv with
        | ptr hv => exact (idOn_some.1 hv.1).1
  have new_ : ∀ b, w.heap.size ≤ b → b < w.heap.size + 2 → ¬ Z' b := fun b h1 h2 hz => by
    rcases hB.new b hz with h | h
    · have := hM.low b h; omega
    · omega
  have hw := wd_still hst (prices_out (Z := Z') (tp := tp) (Stop := fun g w' => ∃ v, g = G (c.finish v) cs ∧ Mz Tryd.prog Z' w' ∧ Gave w' (w.heap.size + 1) n P E v ∧ Out Z' v ∧ Kept w7 w' (w.heap.size + 1)) hM7 (fun ta e => dz _ (ht ta e)) ⟨new_ _ (Nat.le_refl _) (by omega), _, _, _, hB.ref_⟩ ⟨new_ _ (by omega) (by omega), _, _, _, hB.ints⟩ (by
      obtain ⟨cur, h1, _⟩ := hB.rows
      exact ⟨hB.bl_, _, _, _, h1⟩) hn h12
    ⟨by simp, .inr ⟨w.heap.size + 1, n, _, rfl, Nat.le_refl _, hB.ints, Nat.zero_le _, by unfold maxLen; omega, by rw [hcs]; omega, by simp⟩⟩ (by omega) hne (rows_at hB.rows) herr fun v w' a1 a4 ao a5 => .stop fun d _ => ⟨v, rfl, a1.at d, a4, ao, a5⟩)
  refine (ms_wd (sl := sl1) hm hg hw).then ?_
  rintro gs2 w8 sl2 t2 ⟨hm2, _, g2, hg2, v, rfl, b1, b4, bo, b5⟩
  refine ⟨0, gs2, w8, sl2, t2, rfl, Z', v, hm2, hg2, b1, fun b hb => (hB.new b hb).imp id (by omega), fun b hb hz => ?_, gave_pg (w7 := w7) (fun j _ _ hj => (hB.ans j hj).1) b4 b5 fun j B x _ _ hc => hint B x hc, bo, b5.1.trans hB.os, b5.2.1.trans hB.output, Nat.le_trans hB.size b5.2.2.1⟩
  have := hB.size
  rw [b5.2.2.2 b (by omega) (by omega)]
  exact hB.keep b ⟨hz, hb⟩
end
end Px
end Go.Proofs.YtbkjjknlphlhlaaDoor
namespace Go.Proofs.YtbkjjknlphlhlaaDoor
namespace Px
open Go.RowKit
set_option maxRecDepth 100000
theorem IntsAt.below {w w' : World} {n : Nat} {v : Value} {P : Nat → Int} (h : IntsAt w v n P) (hb : Below w.heap.size w w') : IntsAt w' v n P := by
  obtain ⟨a, c, rfl, h⟩ := h
  refine ⟨a, c, rfl, fun k hk => ?_⟩
  obtain ⟨g, e, hc⟩ := h k hk
  exact ⟨g, e, by rw [hb.cell (World.block_lt_of_cell? _ _ hc)]; exact hc⟩
set_option maxHeartbeats 1000000 in
theorem sameInts_any {v1 v2 : Value} (n : Nat) (P : Nat → Int) (w : World) (hn : n ≤ 1000) (h1 : IntsAt w v1 n P) (h2 : IntsAt w v2 n P) :
    Calls Tryd.prog 10 #[v1, v2] w fun e w' => e = .returned (.bool true) ∧ Below w.heap.size w w' := by
  have b1 := fun w' (hb : Below w.heap.size w w') => h1.below hb
  have b2 := fun w' (hb : Below w.heap.size w w') => h2.below hb
  obtain ⟨a1, c1, rfl, _⟩ := h1
  obtain ⟨a2, c2, rfl, _⟩ := h2
  have k1 : ∀ w', Below w.heap.size w w' → ∀ k, k < n → ∃ g, a1 = some ⟨g, 0, none⟩ ∧ w'.cell? ⟨g, k, none⟩ = some (.int .i64 (P k)) := fun w' hb k hk => by
    obtain ⟨a, c, e, h⟩ := b1 w' hb
    cases e
    exact h k hk
  have k2 : ∀ w', Below w.heap.size w w' → ∀ k, k < n → ∃ g, a2 = some ⟨g, 0, none⟩ ∧ w'.cell? ⟨g, k, none⟩ = some (.int .i64 (P k)) := fun w' hb k hk => by
    obtain ⟨a, c, e, h⟩ := b2 w' hb
    cases e
    exact h k hk
  have HC1 := hide k1; have HC2 := hide k2
  clear b1 b2 k1 k2
  go_enter Tryd.func10, Tryd.ntmps10
  go_wp2
  go_loopw [5] (fun iv wr => ∃ k : Nat, k ≤ n ∧ iv = .int .i64 k ∧ Below w.heap.size w wr) (fun iv _ => n - (intOf iv).toNat)
  case atStart => exact ⟨0, by omega, rfl, Below.refl _ _⟩
  case round =>
    obtain ⟨k, hk, rfl, hb⟩ := hrel
    have HB := hide hb
    clear hb
    by_cases hlt : k < n
    · have hki : (k : Int) < n := by omega
      obtain ⟨g1, rfl, e1⟩ := HC1.out wr HB.out k hlt
      obtain ⟨g2, rfl, e2⟩ := HC2.out wr HB.out k hlt
      go_wp2
      go_quiet (fail)
      go_wp2
      exact ⟨⟨k + 1, by omega, by go_num, HB.out.trans ((blw_drew nq).mono HB.out.size)⟩, by simp [intOf]; omega⟩
    · have hki : ¬ (k : Int) < n := by omega
      go_wp2
      go_ret
      exact ⟨rfl, HB.out⟩
end Px
end Go.Proofs.YtbkjjknlphlhlaaDoor
namespace Go.Proofs.YtbkjjknlphlhlaaDoor
namespace Px
open Go.Conc Go.ConcN Sim Sin Sf Mc Hd Mb Ev
open Go.RowKit
set_option maxRecDepth 100000

noncomputable def b4 : Code := Tryd.f4.body.getD .skip
noncomputable def b3 : Code := Tryd.f3.body.getD .skip
/-- Region 1 of abreast, and what stands behind it. -/
noncomputable def ops4 : Array Oper := opsOf (fst (snd b4))
noncomputable def r4 : Code := snd (snd b4)
/-- Region 1 of the law, and what stands behind it. -/
noncomputable def ops3 : Array Oper := opsOf (fst (snd b3))
noncomputable def r3 : Code := snd (snd b3)
section
variable (v0 : Value) (ref k : Int) (N : Nat)
def T3a : Array Value := #[v0, .int .i64 ref, .int .i64 k] ++ (Array.replicate 135 undef).setIfInBounds 3 (.bool false)
noncomputable def F3a : Frame := (fr0 3).at ⟨T3a v0 ref k, []⟩ (.inRegion ops3 [0, 1] :: [.code r3])
def T4a : Array Value := #[.bool false, undef, undef, undef, .slice (some ⟨N, 0, none⟩) 1 1, undef, undef, undef, undef, undef, undef, undef, undef, undef, undef]
noncomputable def F4a : Frame := (fr0 4).at ⟨T4a N, []⟩ (.inRegion ops4 [1, 2, 3, 4, 5, 6] :: [.code r4])
noncomputable def s0 : Goroutine := G (Frame.enter Tryd.prog 3 #[v0, .int .i64 ref, .int .i64 k] .normal) []
noncomputable def s1 : Goroutine := adv Tryd.prog true 13 (s0 v0 ref k)
noncomputable def s2 : Goroutine := fin (s1 v0 ref k) (.slice (some ⟨N, 0, none⟩) 1 1)
theorem s01 : Still Tryd.prog true 13 (s0 v0 ref k) (s1 v0 ref k) := still_of (fun w => by kernel_rfl) (by kernel_rfl) (by kernel_rfl)
theorem s1_run : (s1 v0 ref k).status = .running ∧ True := ⟨by kernel_rfl, trivial⟩
theorem s12 (w : World) : stepG Tryd.prog true (s1 v0 ref k) w = .go (s2 v0 ref k w.heap.size) (w.alloc (.cells #[.slice none 0 0] 24)) #[] ∧ True := ⟨by kernel_rfl, trivial⟩
theorem s2p : Still Tryd.prog true 1 (s2 v0 ref k N) (p0 (F4a N) [F3a v0 ref k] (some ⟨N, 0, none⟩) 1 1 100 2) := still_to (still_of (fun w => by kernel_rfl) (by kernel_rfl) (by kernel_rfl)) (by kernel_rfl)
end
end Px
end Go.Proofs.YtbkjjknlphlhlaaDoor
namespace Go.Proofs.YtbkjjknlphlhlaaDoor
namespace Px
open Go.Conc Go.ConcN Sim Sin Sf Mc Hd Mb Ev
open Go.RowKit
set_option maxRecDepth 100000

section
variable {N : Nat} {x : Value} {w : World}
def T4b (N : Nat) (v : Value) : Array Value := #[.bool false, undef, undef, undef, .slice (some ⟨N, 0, none⟩) 1 1, v, undef, undef, undef, undef, undef, undef, undef, undef, undef]
theorem f4_back (N : Nat) (v : Value) : (F4a N).finish v = (fr0 4).at ⟨T4b N v, []⟩ (.inRegion ops4 [2, 3, 4, 5, 6] :: [r4].map .code) ∧ True := ⟨by kernel_rfl, trivial⟩
def res4 (t : Array Value) : Value := t.getD 0 undef
theorem res4_ok : ResOk Tryd.prog S3 Tryd.f4 res4 := ⟨fun t w => ⟨by kernel_rfl, by kernel_rfl⟩, fun _ _ _ h => h.getD 0⟩
theorem ok4 : Sin.itemB Tryd.prog S3 true (.inRegion ops4 [2, 3, 4, 5, 6]) = true ∧ [r4].all (Sin.codeB Tryd.prog S3 true) = true := ⟨by kernel_rfl, by kernel_rfl⟩
/-- The old blocks are as they were. -/
def Old (w w' : World) : Prop := ∀ b, b < w.heap.size → w'.heap[b]? = w.heap[b]?
theorem Old.below {w w' : World} (h : Below w.heap.size w w') : Old w w' := fun b hb => h.block b hb
set_option maxHeartbeats 1000000 in
theorem abreast_rest (hx : Hid (IntsAt w x 1 fun _ => 0)) : wpRest Tryd.prog ops4 [2, 3, 4, 5, 6] [r4] (fun t w' => res4 t = .bool true ∧ Old w w') (T4b N (.tuple #[x, .nilIface])) w := by
  refine rest_list (k := 2) (l := ops4.toList.drop 2) rfl ?_
  simp only [wpL, ops4, r4, b4, fst, snd, opsOf, Tryd.f4, Option.getD, List.drop, T4b]
  have hb : Below w.heap.size w (w.alloc (.cells #[.int .i64 0] 3)) := (Below.refl _ _).alloc (Nat.le_refl _) _
  have h1 : IntsAt (w.alloc (.cells #[.int .i64 0] 3)) x 1 fun _ => 0 := hx.out.below hb
  have h2 : IntsAt (w.alloc (.cells #[.int .i64 0] 3)) (.slice (some ⟨w.heap.size, 0, none⟩) 1 1) 1 fun _ => 0 := ⟨_, _, rfl, fun k hk => ⟨w.heap.size, rfl, by
    obtain rfl : k = 0 := by omega
    rw [World.cell?_alloc_at _ _ _ _ (by simp)]; rfl⟩⟩
  have HS := hide (sameInts_any 1 (fun _ => 0) _ (by decide) h1 h2)
  have HB := hide hb
  clear hb h1 h2
  go_wp2_with fail
  refine HS.out.mono ?_
  rintro e w2 ⟨rfl, hb2⟩
  have HB2 := hide (HB.out.trans (hb2.mono HB.out.size))
  clear hb2 HS
  simp only []
  go_wp2
  exact ⟨.inl rfl, rfl, rfl, Old.below HB2.out⟩
end
section
variable {gs : Array Goroutine} {w : World} {sl : Option (Nat × Nat)} {t : Trace} {Z Dw : Nat → Prop} {v0 : Value} {ref k : Int} {ad : Nat → Addr} {Stop : Goroutine → World → Prop}
theorem nothing {w' : World} {v : Value} (h : Pg w' 1 (fun _ => []) 100 ad v) : ∃ x, v = .tuple #[x, .nilIface] ∧ IntsAt w' x 1 fun _ => 0 := by
  rcases h with ⟨x, P, h1, h2, h3, _⟩ | ⟨j, J, B, hj, _, _, hb, _⟩
  · refine ⟨x, h1, ?_⟩
    obtain ⟨_, _, vol, hw⟩ := h2 0 (by decide)
    have hp : P 0 = 0 := by
      rcases hw with ⟨h, _⟩ | ⟨h0, h1, h2, h3, _⟩
      · exact h
      · have : Cv.volume [] (P 0) = 0 := rfl
        have h3 : Cv.volume [] (P 0) = vol := h3
        omega
    obtain ⟨a, c, e, h4⟩ := h3
    refine ⟨a, c, e, fun k hk => ?_⟩
    obtain rfl : k = 0 := by omega
    rw [← hp]
    exact h4 0 hk
  · rcases hb with ⟨_, h, _⟩ | ⟨h, _⟩
    · exact absurd h (by decide)
    · exact absurd Cv.well_nil h
/-- ████ -/
theorem abreast_back {x : Value} {N : Nat} {c : Frame} {cs : List Frame} (hM : Mz Tryd.prog Z w) (hN : Dz Z w N) (hx : IntsAt w x 1 fun _ => 0) (hxz : ∀ b, x.ownBlock = some b → Dz Z w b)
    (next : ∀ w', Mz Tryd.prog Z w' → Old w w' → w'.os = w.os → w'.output = w.output → w.heap.size ≤ w'.heap.size → Wd Tryd.prog Z Stop (G (c.finish (.bool true)) cs) w') : Wd Tryd.prog Z Stop (G ((F4a N).finish (.tuple #[x, .nilIface])) (c :: cs)) w := by
  have hx0 := hx
  obtain ⟨a, cap, rfl, hc⟩ := hx
  have hxv : Nice S3 (Dz Z w) (.slice a 1 cap) := by
    cases a with
    | none => exact nice_nils _ _
    | some a => exact nice_slice _ _ (hxz _ rfl)
  rw [(f4_back N _).1]
  have hx' : IntsAt (Lw S3 Z w) (.slice a 1 cap) 1 fun _ => 0 := ⟨a, cap, rfl, fun k hk => by
    obtain ⟨g, e, h⟩ := hc k hk
    exact ⟨g, e, lw_cell h (nice_int _ _)⟩⟩
  refine rest_back s3_ok (R := fun v w' => v = .bool true ∧ Old (Lw S3 Z w) w') (t := T4b N (.tuple #[.slice a 1 cap, .nilIface])) rfl (show Tryd.prog.funcs[4]? = some Tryd.f4 by kernel_rfl) res4_ok ok4.1 ok4.2 hM ?_ (fun T d => abreast_rest (w := World.on (Lw S3 Z w) T d) hx') (fun v w T d h => h) ?_
  · refine vrs_list fun v hv => ?_
    have hu : VR S3 (idOn (Dz Z w)) undef undef := .undef
    have ht : VR S3 (idOn (Dz Z w)) (.tuple #[.slice a 1 cap, .nilIface]) (.tuple #[.slice a 1 cap, .nilIface]) := by
      have := (VRs.empty.push hxv.1).push .nilIface
      exact .tuple this.1 this.2
    simp only [List.mem_cons, List.not_mem_nil, or_false] at hv
    rcases hv with rfl | rfl | rfl | rfl | rfl | rfl | rfl | rfl | rfl | rfl | rfl | rfl | rfl | rfl | rfl <;>
      first | exact hu | exact ht | exact vr_slice hN | exact .bool _
  · rintro m v v' wl w' ha hv ⟨rfl, hold⟩
    obtain rfl := sure_bool (S := S3) true m v' ha.own hv
    exact next w' (ha.mz hM) (fun b hb => ha.keep hb (hold b (by rw [lw_size]; exact hb))) ha.mx.os ha.mx.output ha.size
end
end Px
end Go.Proofs.YtbkjjknlphlhlaaDoor
namespace Go.Proofs.YtbkjjknlphlhlaaDoor
namespace Px
open Go.Conc Go.ConcN Sim Sin Sf Mc Hd Mb Ev
open Go.RowKit
set_option maxRecDepth 100000

def body : Code → Code
  | .loop c => c
  | .block _ c => c
  | c => c
/-- What stands behind the test of how many lists there are. -/
noncomputable def m3 : Code := snd r3
noncomputable def w3 : Code := fst (snd (snd m3))
/-- The body of the first loop, and what stands behind the loop. -/
noncomputable def l3 : Code := body (body (snd w3))
noncomputable def e3 : Code := snd (snd (snd m3))
section
variable (tl : Option Addr) (nl cl : Nat) (ref k : Int)
noncomputable def s3 : Goroutine := adv Tryd.prog true 10 (G ((F3a (.slice tl nl cl) ref k).finish (.bool true)) [])
theorem s23 : Still Tryd.prog true 10 (G ((F3a (.slice tl nl cl) ref k).finish (.bool true)) []) (s3 tl nl cl ref k) := still_of (fun w => by kernel_rfl) (by kernel_rfl) (by kernel_rfl)
theorem s3_run : (s3 tl nl cl ref k).status = .running ∧ True := ⟨by kernel_rfl, trivial⟩
theorem s34 (w : World) : stepG Tryd.prog true (s3 tl nl cl ref k) w = .go (fin (s3 tl nl cl ref k) (.bool (decide ((nl : Int) > 110)))) w #[] ∧ True := ⟨by kernel_rfl, trivial⟩
/-- The law's frame, about to come back. -/
def End3 (g : Goroutine) : Prop := ∃ t todo, g = G { (fr0 3).at ⟨t, []⟩ todo with mode := .returning } [] ∧ t.getD 6 undef = .bool true
theorem s3_many : ∃ g, Still Tryd.prog true 9 (fin (s3 tl nl cl ref k) (.bool true)) g ∧ End3 g := by
  refine ⟨_, still_of (fun w => by kernel_rfl) (by kernel_rfl) (by kernel_rfl), (adv Tryd.prog true 9 (fin (s3 tl nl cl ref k) (.bool true))).frame.tmps, (adv Tryd.prog true 9 (fin (s3 tl nl cl ref k) (.bool true))).frame.todo, by kernel_rfl, by kernel_rfl⟩
noncomputable def T3c : Array Value := (adv Tryd.prog true 18 (fin (s3 tl nl cl ref k) (.bool false))).frame.tmps
theorem s3_few : Still Tryd.prog true 18 (fin (s3 tl nl cl ref k) (.bool false)) (G ((fr0 3).at ⟨T3c tl nl cl ref k, []⟩ (.code (.loop l3) :: .inBlock 0 :: [.code e3])) []) := still_to (still_of (fun w => by kernel_rfl) (by kernel_rfl) (by kernel_rfl)) (by kernel_rfl)
theorem T3c_size : (T3c tl nl cl ref k).size = 138 ∧ True := ⟨by kernel_rfl, trivial⟩
theorem T3c_keys : (T3c tl nl cl ref k).getD 0 undef = .slice tl nl cl ∧ (T3c tl nl cl ref k).getD 1 undef = .int .i64 ref ∧ (T3c tl nl cl ref k).getD 2 undef = .int .i64 k ∧ (T3c tl nl cl ref k).getD 6 undef = .bool false ∧ (T3c tl nl cl ref k).getD 8 undef = .int .i64 0 ∧
    (T3c tl nl cl ref k).getD 9 undef = .slice none 0 0 ∧ (T3c tl nl cl ref k).getD 10 undef = .int .i64 0 := ⟨by kernel_rfl, by kernel_rfl, by kernel_rfl, by kernel_rfl, by kernel_rfl, by kernel_rfl, by kernel_rfl⟩
end
end Px
end Go.Proofs.YtbkjjknlphlhlaaDoor
