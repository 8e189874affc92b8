/- The law in the machine: what is known of the start, and how it ends behind Prices. -/
import Derived.Deep.Slices
import Derived.Carry
import Derived.Conc.LeavingOf
import Derived.Test.YtbkjjknlphlhlaaDoorZ48
namespace Go.Proofs.YtbkjjknlphlhlaaDoor
namespace Px
open Go.Conc Go.ConcN Sim Sin Sf Mc Hd Mb Ev
open Go.RowKit
set_option maxRecDepth 100000
/-- What came in. -/
structure In (W : World) (ad : Nat → Addr) (tl : Option Addr) (nl : Nat) (V : Nat → Value) (Ls : Nat → List Cv.Lot) : Prop where
  sent : Sent W ad
  glob : ∀ g, g ≤ 13 → ∃ c t fz, W.heap[g]? = some (Obj.cells c t fz)
  at_ : ∀ ta, tl = some ta → ∃ c t fz, W.heap[ta.block]? = some (Obj.cells c t fz)
  cell : ∀ i, i < nl → ∃ ta, tl = some ta ∧ W.cell? (ta.add i) = some (V i)
  list : ∀ i, i < nl → (V i = .slice none 0 0 ∧ Ls i = []) ∨ ∃ g c, V i = .slice (some g) (Ls i).length c ∧ ((∃ cs t fz, W.heap[g.block]? = some (Obj.cells cs t fz)) ∨ Ls i = [] ∧ c = 0) ∧ ∀ j u, (flat (Ls i))[j]? = some u → W.cell? (g.add j) = some u
theorem heap_lt {w : World} {b : Nat} {o : Obj} (h : w.heap[b]? = some o) : b < w.heap.size := (Array.getElem?_eq_some_iff.1 h).1
/-- What has come of the start. -/
structure Now (W : World) (Z : Nat → Prop) (w : World) : Prop where
  old : ∀ b, b < W.heap.size → w.heap[b]? = W.heap[b]?
  free : ∀ b, Z b → W.heap.size ≤ b
  mz : Mz Tryd.prog Z w
  os : w.os = W.os
  output : w.output = W.output
  size : W.heap.size ≤ w.heap.size
section
variable {W w w' : World} {Z : Nat → Prop} {ad : Nat → Addr} {tl : Option Addr} {nl cl : Nat} {V : Nat → Value} {Ls : Nat → List Cv.Lot} {ref k : Int} {P : Nat → Int} {m J : Nat}
theorem Now.dz (h : Now W Z w) {b : Nat} (hd : ∃ c t fz, W.heap[b]? = some (Obj.cells c t fz)) : Dz Z w b := by
  obtain ⟨c, t, fz, e⟩ := hd
  have hlt := heap_lt e
  exact ⟨fun hz => by have := h.free b hz; omega, c, t, fz, (h.old b hlt).trans e⟩
theorem Now.cellA (h : Now W Z w) {a : Addr} {v : Value} (hv : W.cell? a = some v) : w.cell? a = some v := (cell_heap (h.old _ (World.block_lt_of_cell? _ _ hv))).trans hv
theorem In.ads (h : In W ad tl nl V Ls) {g : Nat} (hg : g < 12) : ∃ c t fz, W.heap[(ad g).block]? = some (Obj.cells c t fz) := by
  obtain ⟨c, t, e⟩ := h.sent.row g hg
  exact ⟨c, t, _, e⟩
theorem In.now_sent (h : In W ad tl nl V Ls) (n : Now W Z w) : Sent w ad :=
  sent_keep h.sent (fun g hg => by obtain ⟨_, _, _, e⟩ := h.glob g (by omega); exact n.old g (heap_lt e)) (fun g hg => by obtain ⟨_, _, _, e⟩ := h.ads hg; exact n.old _ (heap_lt e))
theorem In.args (h : In W ad tl nl V Ls) (n : Now W Z w) : Args w Z w.heap.size tl nl V Ls where
  at_ := fun ta e => by
    have hd := n.dz (h.at_ ta e)
    have hd' := hd
    obtain ⟨_, _, _, _, e⟩ := hd'
    exact ⟨heap_lt e, hd⟩
  cell := fun i hi => by
    obtain ⟨ta, e, hc⟩ := h.cell i hi
    exact ⟨ta, e, n.cellA hc⟩
  list := fun i hi => by
    rcases h.list i hi with h1 | ⟨g, c, e, hg, hl⟩
    · exact .inl h1
    · refine .inr ⟨g, c, e, hg.imp (fun hd => ?_) id, fun j u hu => n.cellA (hl j u hu)⟩
      have hd := n.dz hd
      have hd' := hd
      obtain ⟨_, _, _, _, e⟩ := hd'
      exact ⟨heap_lt e, hd⟩
theorem In.nice_tl (h : In W ad tl nl V Ls) (n : Now W Z w) : Nice S3 (Dz Z w) (.slice tl nl cl) ∨ tl = none := by
  cases tl with
  | none => exact .inr rfl
  | some ta => exact .inl (nice_slice _ _ (n.dz (h.at_ ta rfl)))
theorem lw_sent (hs : Sent w ad) (h13 : Dz Z w 13) (ha : ∀ g, g < 12 → Dz Z w (ad g).block) : Sent (Lw S3 Z w) ad where
  cell := fun g hg => lw_cell (hs.cell g hg) (nice_iface _ (nice_ptr (ha g hg)))
  et := lw_cell hs.et (sent_nice h13)
  row := fun g hg => by
    obtain ⟨c, t, e⟩ := hs.row g hg
    exact ⟨_, t, by rw [Lw, san_heap, e]; rfl⟩
  ne := hs.ne
theorem In.lw_sent (h : In W ad tl nl V Ls) (n : Now W Z w) : Sent (Lw S3 Z w) ad := Px.lw_sent (h.now_sent n) (n.dz (h.glob 13 (Nat.le_refl _))) fun _ hg => n.dz (h.ads hg)
theorem In.met (h : In W ad tl nl V Ls) (n : Now W Z w) (hm : m ≤ nl) (hf : ∀ i, i < m → Fine (Ls i) ref (P i)) (hb : m < nl → Bad (Ls m) ref J) : Met (Lw S3 Z w) tl nl V Ls ref m J P where
  cell := fun i hi => by
    obtain ⟨ta, e, hc⟩ := h.cell i hi
    have hw := n.cellA hc
    rcases h.list i hi with ⟨e1, e2⟩ | ⟨g, c, e1, hg, hl⟩
    · exact ⟨ta, e, lw_cell hw (by rw [e1]; exact nice_nils _ _), .inl ⟨e2, none, 0, e1⟩⟩
    · refine ⟨ta, e, lw_cell hw ?_, .inr ⟨g, c, e1, argAt_of_flat fun j u hu => lw_cell (n.cellA (hl j u hu)) ?_⟩⟩
      · rw [e1]
        rcases hg with hd | ⟨h0, rfl⟩
        · exact nice_slice _ _ (n.dz hd)
        · rw [h0]; exact nice_ghost _
      · obtain ⟨x, rfl⟩ := flat_int (List.mem_of_getElem? hu)
        exact nice_int _ _
  le := hm
  fine := hf
  bad := hb
theorem Now.aft {wl : World} {m : Ren} (n : Now W Z w) (ha : Aft S3 Z w wl w' m) (hk : ∀ b, b < w.heap.size → wl.heap[b]? = (Lw S3 Z w).heap[b]?) : Now W Z w' :=
  ⟨fun b hb => (ha.keep (Nat.lt_of_lt_of_le hb n.size) (hk b (Nat.lt_of_lt_of_le hb n.size))).trans (n.old b hb), n.free, ha.mz n.mz, ha.mx.os.trans n.os, ha.mx.output.trans n.output, Nat.le_trans n.size ha.size⟩
theorem okR : Sin.itemB Tryd.prog S3 true (.inRegion ops15 [4, 5, 6, 7, 8]) = true ∧ [e15].all (Sin.codeB Tryd.prog S3 true) = true := ⟨by kernel_rfl, by kernel_rfl⟩
variable {Stop : Goroutine → World → Prop} {tr : Array Value}
/-- The rest of the law. -/
theorem rest_end (n : Now W Z w) (hs : tr.size = 138) (h : ∀ T d, wpRest Tryd.prog ops15 [4, 5, 6, 7, 8] [e15] (YesQ (World.on (Lw S3 Z w) T d)) (T3 (ul Z w tr)) (World.on (Lw S3 Z w) T d))
    (next : ∀ g w', End3 g → Now W Z w' → Wd Tryd.prog Z Stop g w') : Wd Tryd.prog Z Stop (G ((fr0 3).at ⟨tr, []⟩ (.inRegion ops15 [4, 5, 6, 7, 8] :: [e15].map .code)) []) w := by
  refine Sin.rest s3_ok (R := fun t w' => t.getD 6 undef = .bool true ∧ Old (Lw S3 Z w) w') rfl okR.1 okR.2 n.mz (ul_is hs ▸ san_rows tr) (fun T d => h T d) (fun _ _ _ _ h => h) ?_
  rintro m t' tr' wl w' todo ha hv ⟨q1, q2⟩
  exact next _ _ ⟨tr', todo, rfl, right_key ha.own hv q1 (sure_bool _)⟩ (n.aft ha fun b hb => q2 b (by rw [lw_size]; exact hb))
theorem t1_size {v : Value} (h : tr.size = 138) : ((T67 tr).setIfInBounds 67 v).size = 138 := by simp [T67, h]
theorem t1_get {v : Value} {j : Nat} (h : j < 64) : ((T67 tr).setIfInBounds 67 v).getD j undef = tr.getD j undef := by
  rw [getD_set' _ (by omega), T67_get h]
theorem t1_new {v : Value} (h : tr.size = 138) : ((T67 tr).setIfInBounds 67 v).getD 67 undef = v := getD_put _ (by simp [T67, h]) _
theorem nice_slc {a : Option Addr} {D : Nat → Prop} {l c : Nat} (h : ∀ g, a = some g → ¬ (l = 0 ∧ c = 0) → D g.block) : Nice S3 D (.slice a l c) := by
  cases a with
  | none => exact nice_nils _ _
  | some g =>
    by_cases h0 : l = 0 ∧ c = 0
    · obtain ⟨rfl, rfl⟩ := h0; exact nice_ghost _
    · exact nice_slice _ _ (h g rfl h0)
theorem nice_pair {D : Nat → Prop} {x y : Value} (hx : Nice S3 D x) (hy : Nice S3 D y) : Nice S3 D (.tuple #[x, y]) := by
  have := (VRs.empty.push hx.1).push hy.1
  exact ⟨.tuple this.1 this.2, sure_pair hx.2 hy.2⟩
/-- ████ Behind Prices that told an error of its arguments. ████ -/
theorem err_end {own : Value} {cnt i : Nat} (h : In W ad tl nl V Ls) (n : Now W Z w) (hK : Keys tr tl nl cl ref k cnt i own) (hJ : wantW k nl = (J : Int) + 1) (hj : J < 12)
    (next : ∀ g w', End3 g → Now W Z w' → Wd Tryd.prog Z Stop g w') : Wd Tryd.prog Z Stop (G ((F3b tr).finish (.tuple #[.slice none 0 0, .iface 145 (.pointer (some (ad J)))])) []) w := by
  rw [f3b_back]
  have hs := t1_size (v := .tuple #[.slice none 0 0, .iface 145 (.pointer (some (ad J)))]) hK.size
  have nice := nice_pair (nice_nils 0 0) (nice_iface 145 (nice_ptr (n.dz (h.ads hj))))
  have ntl : Nice S3 (Dz Z w) (.slice tl nl cl) := nice_slc fun g e _ => n.dz (h.at_ g e)
  refine rest_end n hs (fun T d => rest_err _ tl nl cl J k ad _ (ul_key (by omega) ((t1_get (by decide)).trans hK.k0) ntl) (ul_key (by omega) ((t1_get (by decide)).trans hK.k2) (nice_int _ _)) (ul_key (by omega) (t1_new hK.size) nice) hJ hj ?_) next
  have hs := h.lw_sent n
  exact ⟨hs.cell, hs.et, hs.row, hs.ne⟩
/-- ████ Behind Prices that went. ████ -/
theorem went_end {own v : Value} {cnt i : Nat} (h : In W ad tl nl V Ls) (n : Now W Z w) (hK : Keys tr tl nl cl ref k cnt i own) (h1 : 1 ≤ k) (h2 : k ≤ 16) (hn : nl ≤ 100) (hp : Pg w nl Ls ref ad v) (ho : Out Z v)
    (next : ∀ g w', End3 g → Now W Z w' → Wd Tryd.prog Z Stop g w') : Wd Tryd.prog Z Stop (G ((F3b tr).finish v) []) w := by
  rw [f3b_back]
  have hs := t1_size (v := v) hK.size
  have ntl : Nice S3 (Dz Z w) (.slice tl nl cl) := nice_slc fun g e _ => n.dz (h.at_ g e)
  have hw0 : wantW k nl = 0 := by unfold wantW; rw [if_pos ⟨h1, h2⟩, if_neg (by omega)]
  have go : ∀ (x y : Value) (m J : Nat) (P : Nat → Int), v = .tuple #[x, y] → Nice S3 (Dz Z w) x → Nice S3 (Dz Z w) y → Met (Lw S3 Z w) tl nl V Ls ref m J P → Told (Lw S3 Z w) ad nl m J P x y → Wd Tryd.prog Z Stop (G ((fr0 3).at ⟨(T67 tr).setIfInBounds 67 v, []⟩ (.inRegion ops15 [4, 5, 6, 7, 8] :: [e15].map .code)) []) w := fun x y m J P e nx ny hm ht => by
    refine rest_end n hs (fun T d => rest_went _ tl nl cl m J ref k ad V Ls P x y _ (ul_key (by omega) ((t1_get (by decide)).trans hK.k0) ntl) (ul_key (by omega) ((t1_get (by decide)).trans hK.k1) (nice_int _ _)) (ul_key (by omega) ((t1_get (by decide)).trans hK.k2) (nice_int _ _)) (ul_key (by omega) ((t1_new hK.size).trans e) (nice_pair nx ny)) hw0 hn ?_ ?_ ?_) next
    · have hs := h.lw_sent n
      exact ⟨hs.cell, hs.et, hs.row, hs.ne⟩
    · exact ⟨hm.cell, hm.le, hm.fine, hm.bad⟩
    · exact ⟨ht.all, ht.one⟩
  rcases hp with ⟨x, P, e, hf, hx, hr⟩ | ⟨j, J, B, hj, hJ, hf, hb, e, c0, c1⟩
  · have nx : Nice S3 (Dz Z w) x := by
      obtain ⟨a, c, rfl, _⟩ := hx
      refine nice_slc fun g eg h0 => ?_
      subst eg
      exact ⟨ho.1 _ _ _ _ _ e rfl h0, (hr _ _ _ rfl).resolve_left h0⟩
    refine go x .nilIface nl 0 P e nx nice_nilIface (h.met n (Nat.le_refl _) hf fun hh => absurd hh (Nat.lt_irrefl _)) ⟨fun _ => ⟨rfl, ?_⟩, fun hh => absurd hh (Nat.lt_irrefl _)⟩
    obtain ⟨a, c, rfl, hc⟩ := hx
    exact ⟨a, c, rfl, fun k hk => by
      obtain ⟨g, e, hc⟩ := hc k hk
      exact ⟨g, e, lw_cell hc (nice_int _ _)⟩⟩
  · have hzB : ¬ Z B := ho.2 _ _ e
    have dB : Dz Z w B := dz_cell (a := ⟨B, 0, none⟩) c0 hzB
    obtain ⟨P, hP⟩ := Classical.axiomOfChoice (r := fun (i : Nat) (p : Int) => i < j → Fine (Ls i) ref p) fun i => by
      by_cases hi : i < j
      · obtain ⟨p, hp⟩ := hf i hi
        exact ⟨p, fun _ => hp⟩
      · exact ⟨0, fun hh => absurd hh hi⟩
    refine go (.slice none 0 0) _ j J P e (nice_nils _ _) (nice_iface _ (nice_ptr dB)) (h.met n (Nat.le_of_lt hj) hP fun _ => hb) ⟨fun hh => by omega, fun _ => ⟨hJ, rfl, B, rfl, lw_cell c0 (nice_int _ _), lw_cell c1 (nice_iface _ (nice_ptr (n.dz (h.ads hJ))))⟩⟩
end
end Px
end Go.Proofs.YtbkjjknlphlhlaaDoor
namespace Go.Proofs.YtbkjjknlphlhlaaDoor
namespace Px
open Go.Conc Go.ConcN Sim Sin Sf Mc Hd Mb Ev
open Go.RowKit
set_option maxRecDepth 100000
theorem ms_start (g : Goroutine) (W : World) : Ms (fun _ => False) #[g] W #[] where
  pos := by simp
  leav := ⟨_, leavers_one _ _⟩
  hist := ⟨⟨fun said => by rintro ⟨i, j, _, ⟨a, b, ha, _⟩, _⟩; simp [Trace.act?] at ha, fun i a ha => by simp [touchAt, Trace.act?] at ha, fun i g hg => by simp [Trace.g?] at hg, rfl, by simp⟩, fun i op x hi => by simp at hi, by simp, fun i op hi => by simp at hi⟩
  low := fun _ h => h.elim
/-- The blocks of what is listed. -/
def D1 (ad : Nat → Addr) (b : Nat) : Prop := b < 14 ∨ ∃ g, g < 12 ∧ b = (ad g).block
section
variable {W w w' : World} {Z K : Nat → Prop} {ad : Nat → Addr} {tl tp : Option Addr} {nl cl n base : Nat} {V L : Nat → Value} {Ls Ks : Nat → List Cv.Lot} {ref k : Int} {x : Value} {l : List Cv.Lot}
theorem Now.at (h : Now W Z w) (d : Nat) : Now W Z (w.at d) := ⟨h.old, h.free, h.mz.at d, h.os, h.output, h.size⟩
theorem Now.step (h : Now W Z w) (hk : ∀ b, b < w.heap.size → w'.heap[b]? = w.heap[b]?) (os : w'.os = w.os) (output : w'.output = w.output) (size : w.heap.size ≤ w'.heap.size) : Now W Z w' where
  old := fun b hb => (hk b (Nat.lt_of_lt_of_le hb h.size)).trans (h.old b hb)
  free := h.free
  mz := ⟨fun g hg => by
    obtain ⟨h1, c, t, fz, e⟩ := h.mz.glob g hg
    exact ⟨h1, c, t, fz, (hk g (heap_lt e)).trans e⟩, fun b hb => Nat.lt_of_lt_of_le (h.mz.low b hb) size⟩
  os := os.trans h.os
  output := output.trans h.output
  size := Nat.le_trans h.size size
theorem In.d1 (h : In W ad tl nl V Ls) (n : Now W Z w) {b : Nat} (hb : D1 ad b) : Dz Z w b := by
  rcases hb with hb | ⟨g, hg, rfl⟩
  · exact n.dz (h.glob b (by omega))
  · exact n.dz (h.ads hg)
theorem In.wf (h : In W ad tl nl V Ls) (hn : Now W Z w) (hK : ∀ b, K b → ∃ c t fz, w.heap[b]? = some (Obj.cells c t fz)) (hl : ∀ i, i < n → Lots w (L i) (Ks i) ∧ VR S12 (idOn fun b => D1 ad b ∨ K b) (L i) (L i)) (hr : ∀ i, i < n → ∃ ta, tp = some ta ∧ w.cell? (ta.add i) = some (L i)) : Wf (fun b => D1 ad b ∨ K b) ad tp n L Ks w :=
  have hc : ∀ b, D1 ad b ∨ K b → ∃ c t fz, w.heap[b]? = some (Obj.cells c t fz) := fun b hb => hb.elim (fun hb => (h.d1 hn hb).2) (hK b)
  ⟨fun b hb => .inl (hc b hb), hc, fun _ hg => .inl (.inl hg), h.now_sent hn, fun g hg => .inl (.inr ⟨g, hg, rfl⟩), hl, hr⟩
theorem addr_add (g k : Nat) : (⟨g, 0, none⟩ : Addr).add k = ⟨g, k, none⟩ := by unfold Addr.add; split <;> simp_all
theorem Lrow.lots (h : Lrow w base x l) : Lots w x l := by
  rcases h.2 with ⟨e, hl⟩ | ⟨g, cap, cur, e, hb, hg, hle, _⟩
  · exact .inl ⟨List.eq_nil_of_length_eq_zero hl, none, 0, e⟩
  · refine .inr ⟨g, 0, cap, e, hle, lotsAt_of_flat fun j u hu => ?_⟩
    have := h.cells (g := g) (by rw [e]; rfl) j u hu
    rwa [addr_add] at this
theorem Lrow.vr {D : Nat → Prop} (h : Lrow w base x l) (hD : ∀ b, x.ownBlock = some b → D b) : VR S12 (idOn D) x x := by
  rcases h.2 with ⟨rfl, _⟩ | ⟨g, cap, cur, rfl, _⟩
  · exact .nils _ _
  · exact .slice _ _ ⟨idOn_self (hD g rfl), rfl, rfl⟩
theorem globs : Tryd.prog.globals.size = 13 ∧ True := ⟨by kernel_rfl, trivial⟩
variable {sl : Option (Nat × Nat)}
/-- Where the law calls Prices with its own lists, or comes to its end. -/
def At2 (W : World) (Z : Nat → Prop) (tl : Option Addr) (nl cl : Nat) (ref k : Int) (Ls : Nat → List Cv.Lot) (g : Goroutine) (w : World) : Prop :=
  Now W Z w ∧ (End3 g ∨ ∃ W3 tr tp cp xs cnt, g = p0 (F3b tr) [] tp nl cp ref k ∧ Keys tr tl nl cl ref k cnt nl (.slice tp nl cp) ∧ Lp W3 Z W3.heap.size Ls nl (.slice tp nl cp) xs w ∧ 1 ≤ k ∧ k ≤ 16 ∧ nl ≤ 100)
theorem law_mid {v0 : Value} (h : In W ad tl nl V Ls) (hv : v0 = .slice tl nl cl) (n : Now W Z w) : Wd Tryd.prog Z (At2 W Z tl nl cl ref k Ls) (G ((F3a v0 ref k).finish (.bool true)) []) w := by
  subst hv
  refine Sin.wd_still (s23 tl nl cl ref k) (wd_same (s3_run tl nl cl ref k).1 (fun w => (s34 tl nl cl ref k w).1) ?_)
  by_cases hmany : (nl : Int) > 110
  · rw [decide_eq_true hmany]
    obtain ⟨g, hst, he⟩ := s3_many tl nl cl ref k
    exact Sin.wd_still hst (.stop fun d _ => ⟨n.at d, .inl he⟩)
  · rw [decide_eq_false hmany]
    have hk := T3c_keys tl nl cl ref k
    refine Sin.wd_still (s3_few tl nl cl ref k) (w_loop (loop_any (W := w) (base := w.heap.size) (Ls := Ls) (ref := ref) (k := k) (h.args n) (by omega) ?_ (fun g w' he hs => .stop fun d _ => ⟨(n.step hs.old hs.os hs.output hs.size).at d, .inl he⟩) nl 0 w _ (.slice none 0 0) [] 0 (by omega) (by omega) ⟨(T3c_size tl nl cl ref k).1, hk.1, hk.2.1, hk.2.2.1, hk.2.2.2.1, hk.2.2.2.2.1, hk.2.2.2.2.2.1, hk.2.2.2.2.2.2⟩
      ⟨n.mz, World.ownsRow_nil _ _ _ _, fun j hj => absurd hj (Nat.not_lt_zero j), fun _ _ => rfl, Nat.le_refl _, rfl, rfl, n.mz.low⟩))
    intro w4 tr own xs cnt hK hL
    have n4 : Now W Z w4 := n.step hL.old hL.os hL.output hL.size
    obtain ⟨tp, cp, rfl⟩ : ∃ tp cp, own = .slice tp nl cp := by
      rcases hL.own.2 with ⟨e1, e2⟩ | ⟨g, cap, _, e1, _⟩
      · exact ⟨none, 0, by rw [e1, e2]⟩
      · exact ⟨_, _, e1⟩
    refine into_prices hK ?_
    by_cases hbad : ¬ (1 ≤ k ∧ k ≤ 16) ∨ 100 < nl
    · refine prices_err hL.mz (h.now_sent n4) (fun g hg => n4.dz (h.ads hg)) hbad fun J w5 hJ hj st => ?_
      refine err_end h (n4.step st.old st.os st.output st.size) hK ?_ hJ fun g w' he hn => .stop fun d _ => ⟨hn.at d, .inl he⟩
      unfold wantW
      by_cases hk : 1 ≤ k ∧ k ≤ 16
      · rw [if_pos hk] at hj ⊢
        rw [if_pos (hbad.resolve_left fun hh => hh hk), hj]
        rfl
      · rw [if_neg hk] at hj ⊢
        rw [hj]
        rfl
    · have hk : 1 ≤ k ∧ k ≤ 16 := Classical.byContradiction fun hh => hbad (.inl hh)
      have hn : nl ≤ 100 := by
        by_cases hh : 100 < nl
        · exact absurd (.inr hh) hbad
        · omega
      exact .stop fun d _ => ⟨n4.at d, .inr ⟨w, tr, tp, cp, xs, cnt, rfl, hK, ⟨hL.mz.at d, hL.own, hL.rows, hL.old, hL.size, hL.os, hL.output, hL.low⟩, hk.1, hk.2, hn⟩⟩
/-- ████ -/
theorem law_runs (h : In W ad tl nl V Ls) : Runs #[s0 (.slice tl nl cl) ref k] W sl #[] fun gs' w' _ t' => ∃ Z' g, Ms Z' gs' w' t' ∧ gs'[0]? = some g ∧ End3 g ∧ Now W Z' w' := by
  have n0 : Now W (fun _ => False) W := ⟨fun _ _ => rfl, fun _ h => h.elim, ⟨fun g hg => ⟨id, h.glob g (globs.1 ▸ hg)⟩, fun _ h => h.elim⟩, rfl, rfl, Nat.le_refl _⟩
  have hb : Below W.heap.size W (W.alloc (.cells #[.slice none 0 0] 24)) := (Below.refl _ _).alloc (Nat.le_refl _) _
  have n1 : Now W (fun _ => False) (W.alloc (.cells #[.slice none 0 0] 24)) := n0.step hb.block hb.os hb.output hb.size
  have hc : (W.alloc (.cells #[.slice none 0 0] 24)).cell? ⟨W.heap.size, 0, none⟩ = some (.slice none 0 0) := by rw [World.cell?_alloc_at _ _ _ _ (by simp)]; rfl
  have hw0 : Wd Tryd.prog (fun _ => False) (fun g w' => g = p0 (F4a W.heap.size) [F3a (.slice tl nl cl) ref k] (some ⟨W.heap.size, 0, none⟩) 1 1 100 2 ∧ Now W (fun _ => False) w' ∧ w'.cell? ⟨W.heap.size, 0, none⟩ = some (.slice none 0 0) ∧ w'.heap.size = W.heap.size + 1) (s0 (.slice tl nl cl) ref k) W :=
    Sin.wd_still (s01 _ ref k) (wd_new (s2 _ ref k) (s1_run _ ref k).1 (fun w => (s12 _ ref k w).1) (Sin.wd_still (s2p _ ref k W.heap.size) (.stop fun d _ => ⟨rfl, n1.at d, hc, show (W.heap.push _).size = _ by simp⟩)))
  refine (ms_wd (sl := sl) (ms_start _ W) rfl hw0).then ?_
  rintro gs1 w1 sl1 t1 ⟨hm1, _, g1, hg1, rfl, n1, hc1, hs1⟩
  have hN1 : Dz (fun _ => False) w1 W.heap.size := dz_cell (a := ⟨W.heap.size, 0, none⟩) hc1 id
  refine (prices_phase (sl := sl1) (Dw := fun b => D1 ad b ∨ False) (L := fun _ => .slice none 0 0) (Ls := fun _ => []) hm1 hg1 (by decide) (by decide) (by decide) n1.mz (fun _ _ => id) (fun ta e => by cases e; exact hN1)
    (h.wf n1 (fun _ hh => hh.elim) (fun i _ => ⟨.inl ⟨rfl, none, 0, rfl⟩, .nils _ _⟩) fun i hi => ⟨_, rfl, by
        obtain rfl : i = 0 := by omega
        exact hc1⟩)).then ?_
  rintro gs2 w2 sl2 t2 ⟨Z1, v, hm2, hg2, hM2, hz2, hk2, hp, ho, os2, out2, sz2⟩
  have hz1 : ∀ b, Z1 b → w1.heap.size ≤ b := fun b hb => (hz2 b hb).resolve_left id
  have n2 : Now W Z1 w2 := ⟨fun b hb => (hk2 b (by omega) id).trans (n1.old b hb), fun b hb => by have := hz1 b hb; omega, hM2, os2.trans n1.os, out2.trans n1.output, Nat.le_trans n1.size sz2⟩
  obtain ⟨x, rfl, hx⟩ := nothing hp
  have hN2 : Dz Z1 w2 W.heap.size := by
    obtain ⟨_, c, t, fz, e⟩ := hN1
    exact ⟨fun hz => by have := hz1 _ hz; omega, c, t, fz, (hk2 _ (by omega) id).trans e⟩
  have hxz : ∀ b, x.ownBlock = some b → Dz Z1 w2 b := fun b hb => by
    obtain ⟨a, c, rfl, hx⟩ := hx
    obtain ⟨g, rfl, hc⟩ := hx 0 (by decide)
    cases hb
    exact dz_cell (a := ⟨g, 0, none⟩) hc (ho.1 _ _ _ _ _ rfl rfl (by omega))
  have hw2 : Wd Tryd.prog Z1 (At2 W Z1 tl nl cl ref k Ls) (G ((F4a W.heap.size).finish (.tuple #[x, .nilIface])) [F3a (.slice tl nl cl) ref k]) w2 := abreast_back hM2 hN2 hx hxz fun w3 m3 old3 os3 out3 sz3 => law_mid h rfl (n2.step old3 os3 out3 sz3)
  refine (ms_wd (sl := sl2) hm2 hg2 hw2).then ?_
  rintro gs3 w3 sl3 t3 ⟨hm3, _, g3, hg3, n3, he | ⟨W3, tr, tp, cp, xs, cnt, rfl, hK, hL, k1, k2, hn⟩⟩
  · exact ⟨0, gs3, w3, sl3, t3, rfl, Z1, g3, hm3, hg3, he, n3⟩
  · have low : ∀ b, W3.heap.size ≤ b → ¬ Z1 b := fun b hb hz => by have := hL.low b hz; omega
    have hown := hL.own
    have htp : ∀ ta, tp = some ta → Dz Z1 w3 ta.block := fun ta e => by
      rcases hown.2 with ⟨e1, _⟩ | ⟨g, cap, cur, e1, hb, hg, _⟩
      · rw [e] at e1; cases e1
      · rw [e] at e1; cases e1
        exact ⟨low g hb, _, _, _, hg⟩
    have hxs : ∀ i, i < nl → Lrow w3 W3.heap.size (xs.getD i undef) (Ls i) ∧ xs[i]? = some (xs.getD i undef) := fun i hi => by
      obtain ⟨x, e, hr⟩ := hL.rows i hi
      rw [List.getD_eq_getElem?_getD, e]
      exact ⟨hr, rfl⟩
    have hKc : ∀ b, (∃ j, j < nl ∧ (xs.getD j undef).ownBlock = some b) → W3.heap.size ≤ b ∧ ∃ c t fz, w3.heap[b]? = some (Obj.cells c t fz) := fun b ⟨j, hj, e⟩ => by
      rcases (hxs j hj).1.2 with ⟨e1, _⟩ | ⟨g, cap, cur, e1, hb, hg, _⟩
      · rw [e1] at e; cases e
      · rw [e1] at e; cases e
        exact ⟨hb, _, _, _, hg⟩
    refine (prices_phase (sl := sl3) (Dw := fun b => D1 ad b ∨ ∃ j, j < nl ∧ (xs.getD j undef).ownBlock = some b) (L := fun j => xs.getD j undef) (Ls := Ls) hm3 hg3 k1 k2 hn n3.mz (fun b hb => hb.elim (fun hb => (h.d1 n3 hb).1) fun hb => low b (hKc b hb).1) htp
      (h.wf n3 (fun b hb => (hKc b hb).2) (fun i hi => ⟨(hxs i hi).1.lots, (hxs i hi).1.vr fun b hb => .inr ⟨i, hi, hb⟩⟩) fun i hi => ?_)).then ?_
    · rcases hown.2 with ⟨e1, e2⟩ | ⟨g, cap, cur, e1, _⟩
      · omega
      · cases e1
        refine ⟨_, rfl, ?_⟩
        exact hown.cells (g := g) rfl i _ (hxs i hi).2
    rintro gs4 w4 sl4 t4 ⟨Z2, v, hm4, hg4, hM4, hz4, hk4, hp4, ho4, os4, out4, sz4⟩
    have n4 : Now W Z2 w4 := ⟨fun b hb => (hk4 b (Nat.lt_of_lt_of_le hb n3.size) fun hz => by have := n3.free b hz; omega).trans (n3.old b hb), fun b hb => (hz4 b hb).elim (n3.free b) (Nat.le_trans n3.size), hM4, os4.trans n3.os, out4.trans n3.output, Nat.le_trans n3.size sz4⟩
    refine (ms_wd (sl := sl4) hm4 hg4 (went_end (Stop := fun g w' => End3 g ∧ Now W Z2 w') h n4 hK k1 k2 hn hp4 ho4 fun g w' he hh => .stop fun d _ => ⟨he, hh.at d⟩)).then ?_
    rintro gs5 w5 sl5 t5 ⟨hm5, _, g5, hg5, he, n5⟩
    exact ⟨0, gs5, w5, sl5, t5, rfl, Z2, g5, hm5, hg5, he, n5⟩
end
end Px
end Go.Proofs.YtbkjjknlphlhlaaDoor
namespace Go.Proofs.YtbkjjknlphlhlaaDoor
namespace Px
open Go.ChangeShapes Go.WideShapes Go.ChangeAt Go.RowKit
open Sim
set_option maxRecDepth 100000
theorem cellsLot : Tryd.prog.cellsOf 47 = 5 ∧ Tryd.prog.cellsOf 24 = 1 := ⟨by kernel_rfl, by kernel_rfl⟩
/-- A list of lots, as it came in. -/
def Opened (w : World) (v : Value) (l : List Cv.Lot) : Prop := (v = .slice none 0 0 ∧ l = []) ∨ ∃ g c, v = .slice (some g) l.length c ∧ ((∃ cs t fz, w.heap[g.block]? = some (Obj.cells cs t fz)) ∨ l = [] ∧ c = 0) ∧ ∀ j u, (flat l)[j]? = some u → w.cell? (g.add j) = some u
section
variable {H : Type} {enc : TypeId × Value → H} {w : World}
theorem cells_of_cell {a : Addr} {v : Value} (h : w.cell? a = some v) : ∃ cs t fz, w.heap[a.block]? = some (Obj.cells cs t fz) := by
  obtain ⟨c, t, fz, e, _⟩ := cell_isSome h
  exact ⟨c, t, fz, e⟩
theorem open_lots {v : Value} {fuel : Nat} {x : DataW H × List MemPlace} (h : DataW.trod enc Tryd.prog w 0 (fun _ => true) true fuel 24 [v] = some x) : ∃ l, Opened w v l := by
  rcases Go.Deep.open_slice Tryd.underlying24 h with ⟨hcs, _⟩ | ⟨a, len, cap, m, n, D, Pl, hcs, _, hl, _, hm, _, hx⟩
  · exact ⟨[], .inl ⟨by simpa using hcs, rfl⟩⟩
  · have hv : v = .slice (some a) len cap := by simpa using hcs
    subst hv
    simp only [if_true] at hm
    rw [cellsLot.1] at hx
    have each : ∀ i, i < len → ∃ x : Cv.Lot, ∀ j, j < 5 → w.cell? (a.add (i * 5 + j)) = (lotCells x)[j]? := by
      intro i hi
      obtain ⟨cs', h1, h2⟩ := hx i (by omega)
      obtain ⟨_, hlen, hcell⟩ := World.cells?_some h1
      obtain ⟨xs, k, _, _, _, hxl, hf⟩ := DataW.trod_struct Tryd.underlying47 h2
      match xs, hxl, cs', hlen with
      | [y0, y1, y2, y3, y4], _, [c0, c1, c2, c3, c4], _ =>
        have g0 := hf 0 _ rfl
        have g1 := hf 1 _ rfl
        have g2 := hf 2 _ rfl
        have g3 := hf 3 _ rfl
        have g4 := hf 4 _ rfl
        simp [cells3] at g0 g1 g2 g3 g4
        obtain ⟨x0, e0, _, _⟩ := DataW.trod_int Tryd.underlying3 g0
        obtain ⟨x1, e1, _, _⟩ := DataW.trod_int Tryd.underlying3 g1
        obtain ⟨x2, e2, _, _⟩ := DataW.trod_int Tryd.underlying3 g2
        obtain ⟨x3, e3, _, _⟩ := DataW.trod_int Tryd.underlying3 g3
        obtain ⟨x4, e4, _, _⟩ := DataW.trod_int Tryd.underlying3 g4
        simp at e0 e1 e2 e3 e4
        subst e0 e1 e2 e3 e4
        refine ⟨⟨x0, x1, x2, x3, x4⟩, fun j hj => ?_⟩
        have := hcell j hj
        rw [Go.Deep.add_add] at this
        rw [this]
        rfl
    have inh : Inhabited Cv.Lot := ⟨Cv.z⟩
    obtain ⟨q, hq⟩ := Go.Deep.choose_lt each
    have hnth : ∀ i, i < len → Cv.nth ((List.range len).map q) i = q i := fun i hi => by
      unfold Cv.nth
      rw [List.getD_eq_getElem?_getD, List.getElem?_map, List.getElem?_range hi]
      rfl
    refine ⟨(List.range len).map q, .inr ⟨a, cap, by simp, ?_, fun j u hu => ?_⟩⟩
    · by_cases h0 : cap = 0
      · obtain rfl : len = 0 := by omega
        exact .inr ⟨rfl, h0⟩
      · obtain ⟨cs', h1, _⟩ := hx 0 (by omega)
        obtain ⟨_, hlen, hcell⟩ := World.cells?_some h1
        have := hcell 0 (by decide)
        rw [List.getElem?_eq_getElem (by omega)] at this
        have := cells_of_cell this
        rw [add_block, add_block] at this
        exact .inl this
    · have hj : j < len * 5 := by
        have := (List.getElem?_eq_some_iff.1 hu).1
        rw [flat_length] at this
        simpa using this
      have hj5 : j / 5 < len := by omega
      have := flat_at ((List.range len).map q) (j / 5) (j % 5) (by simpa using hj5) (by omega)
      rw [show j / 5 * 5 + j % 5 = j by omega, hnth _ hj5, hu] at this
      rw [show j = j / 5 * 5 + j % 5 by omega, hq _ hj5 _ (by omega), ← this]
theorem open_arg {v : Value} {d : DataW H} {p : List MemPlace} {base : Nat} (hval : Value.okWide Tryd.prog w .any base 22 v) (h : DataW.Trod enc Tryd.prog w 0 (fun _ => true) true 22 v d p) :
    ∃ (tl : Option Addr) (nl cl : Nat) (V : Nat → Value) (Ls : Nat → List Cv.Lot), v = .slice tl nl cl ∧ (∀ ta, tl = some ta → ∃ c t fz, w.heap[ta.block]? = some (Obj.cells c t fz)) ∧ (∀ i, i < nl → ∃ ta, tl = some ta ∧ w.cell? (ta.add i) = some (V i)) ∧ ∀ i, i < nl → Opened w (V i) (Ls i) := by
  obtain ⟨a0, len0, cap0, rfl⟩ := okWide_slice Tryd.underlying22 hval
  obtain ⟨fuel, hf⟩ := h
  rcases Go.Deep.open_slice1 Tryd.underlying22 cellsLot.2 hf with ⟨hcs, _⟩ | ⟨a, len, cap, m, n, V, D, Pl, hcs, _, hl, _, hm, _, hx⟩
  · simp [Value.cells] at hcs
    obtain ⟨rfl, rfl, rfl⟩ := hcs
    exact ⟨none, 0, 0, fun _ => undef, fun _ => [], rfl, fun ta e => (by cases e), fun i hi => absurd hi (Nat.not_lt_zero i), fun i hi => absurd hi (Nat.not_lt_zero i)⟩
  · simp [Value.cells] at hcs
    obtain ⟨rfl, rfl, rfl⟩ := hcs
    simp only [if_true] at hm
    have inh : Inhabited (List Cv.Lot) := ⟨[]⟩
    obtain ⟨q, hq⟩ := Go.Deep.choose_lt (n := len0) (p := fun i l => Opened w (V i) l) fun i hi => open_lots (hx i (by omega)).2
    refine ⟨some a, len0, cap0, V, q, rfl, fun ta e => ?_, fun i hi => ⟨a, rfl, (hx i (by omega)).1⟩, hq⟩
    cases e
    simp only [Value.okWide, Tryd.underlying22, Cell.okWide, Cell.ok, World.has] at hval
    obtain ⟨_, _, _, _, row, cells, hs, _⟩ := hval
    unfold World.shape? at hs
    split at hs
    · next c t fz e => exact ⟨c, t, fz, e⟩
    · cases hs
theorem rows0 : (List.range 13).all (fun g => (((begin Tryd.prog (fun _ _ => 0) default).world.heap[g]?).bind Obj.row?).isSome) = true := by kernel_rfl
theorem row13 : (match (begin Tryd.prog (fun _ _ => 0) default).world.heap[13]? with | some (.cells ..) => true | _ => false) = true := by kernel_rfl
theorem glob_in (hS : w.ShapedOpen Tryd.prog) (g : Nat) (hg : g ≤ 13) : ∃ c t fz, w.heap[g]? = some (Obj.cells c t fz) := by
  by_cases h13 : g < 13
  · have := List.all_eq_true.1 rows0 g (List.mem_range.2 h13)
    obtain ⟨⟨z, t⟩, e⟩ := Option.isSome_iff_exists.1 this
    obtain ⟨cs, h1, _⟩ := hS.1 g z t (by rw [globs.1]; exact h13) e
    exact ⟨_, _, _, h1⟩
  · obtain rfl : g = 13 := by omega
    have h0 := row13
    split at h0
    · next c t fz e =>
      obtain ⟨o, o₀, h1, h2, h3⟩ := hS.2 13 (by rw [globs.1]; exact Nat.le_refl _) (Array.getElem?_eq_some_iff.1 e).1
      rw [show World.looseAt (13 - Tryd.prog.globals.size) = false from by rw [globs.1]; rfl] at h3
      simp only [Bool.false_eq_true, if_false] at h3
      rw [e] at h2
      cases h2
      exact ⟨_, _, _, h1.trans (congrArg some h3)⟩
    · cases h0
end
end Px
end Go.Proofs.YtbkjjknlphlhlaaDoor
namespace Go.Proofs.YtbkjjknlphlhlaaDoor
namespace Px
open Go.Conc Go.ConcN Sim Sin Sf Mc Hd Mb Ev
open Go.ChangeShapes Go.WideShapes Go.ChangeAt Go.RowKit
set_option maxRecDepth 100000
theorem res3 (t : Array Value) (w : World) : (results Tryd.f3 t).run Tryd.prog w = .ok (t.getD 6 undef) w ∧ (results Tryd.f3 t).events Tryd.prog w #[] = #[] := ⟨by kernel_rfl, by kernel_rfl⟩
theorem end3_step {g : Goroutine} (h : End3 g) (w : World) : g.status = .running ∧ stepG Tryd.prog true g w = .ended (.done (.bool true)) w #[] := by
  obtain ⟨t, todo, rfl, h6⟩ := h
  have hf : Tryd.prog.funcs[3]? = some Tryd.f3 := by kernel_rfl
  obtain ⟨r1, r2⟩ := res3 t w
  rw [h6] at r1
  refine ⟨rfl, ?_⟩
  simp [G, stepG, unwind, doReturn, Frame.at, fr0, hf, r1, r2, seen, GStep.after]
section
variable {W : World} {ad : Nat → Addr} {tl : Option Addr} {nl cl : Nat} {V : Nat → Value} {Ls : Nat → List Cv.Lot} {ref k : Int} {Post : Value → World → Prop}
theorem now_below {Z : Nat → Prop} {w' : World} (h : Now W Z w') : Below W.heap.size W { w' with tape := W.tape } := ⟨h.os, rfl, h.output, h.size, h.old⟩
theorem law_ends (h : In W ad tl nl V Ls) (hp : ∀ w', Below W.heap.size W { w' with tape := W.tape } → Post (.bool true) w') :
    ∃ M last o w' t', runNT Tryd.prog (M + 1) (solo (s0 (.slice tl nl cl) ref k) W) #[] = (.ended o w', t') ∧ runN Tryd.prog M (solo (s0 (.slice tl nl cl) ref k) W) = .next last ∧ step Tryd.prog last = .ended o w' ∧ Conc.Good Tryd.prog Post last o w' t' := by
  obtain ⟨n, gs, w1, sl, t, h1, Z, g, hm, hg, he, hn⟩ := law_runs (cl := cl) (ref := ref) (k := k) (sl := none) h
  obtain ⟨q, hL⟩ := hm.leav
  obtain ⟨N, last, o, w', t', e1, e2, e3, e4⟩ := beside_ends (P := Tryd.prog) (Shun := ShZ Z) (B := w1.heap.size) (D := fun _ _ es => ∀ e ∈ es, EvL (ShZ Z) w1.heap.size e) (Post := Post) (sl := sl) (n := 0) (fun _ _ _ h => h) hg hL hm.hist.past
    (fun w2 hr => by
      obtain ⟨d, rfl⟩ := hr
      obtain ⟨s1, s2⟩ := end3_step he (w1.at d)
      exact ⟨s1, .bool true, #[], s2, fun e he => by simp at he, hp _ (now_below (hn.at d))⟩)
  refine ⟨n + N, last, o, w', t', ?_, ?_, e3, e4⟩
  · show runNT Tryd.prog (n + N + 1) (crowd #[s0 (.slice tl nl cl) ref k] W none) #[] = _
    rw [Nat.add_assoc, runNT_add, h1]; exact e1
  · show runN Tryd.prog (n + N) (crowd #[s0 (.slice tl nl cl) ref k] W none) = _
    rw [runN_add, ← runNT_fst Tryd.prog _ _ #[], h1]; exact e2
end
end Px
end Go.Proofs.YtbkjjknlphlhlaaDoor
