/- One call of 'each': who meets whom. -/
import Derived.Test.YtbkjjknlphlhlaaDoorZ43
namespace Go.Proofs.YtbkjjknlphlhlaaDoor
namespace Mc
open Go.Conc Go.ConcN Hd Sim Wy Ev Ms Cm
open Go.ConcR (KK WgAt stA smA g_of_ofEvents)
set_option maxRecDepth 100000

section
variable {P : Program} {E : Env} {F : Fam} {gs : Array Goroutine} {w : World} {t : Trace} {own : Nat → Nat} {x : Nat → Pt} {τ : Nat → Tag} {cl : Bool} {st sm : Int} {sl : Option (Nat × Nat)} {i : Nat} {g : Goroutine}
theorem set_comm' (a : Array Goroutine) {i j : Nat} (h : i ≠ j) (p q : Goroutine) : (a.setIfInBounds i p).setIfInBounds j q = (a.setIfInBounds j q).setIfInBounds i p := by
  apply Array.ext_getElem?
  intro k
  simp only [Array.getElem?_setIfInBounds, Array.size_setIfInBounds]
  by_cases h1 : j = k
  · subst h1
    rw [if_pos rfl, if_neg h, if_pos rfl]
  · rw [if_neg h1, if_neg h1]
theorem mute4 {n B : Nat} {u : Trace} (h : ∀ op ∈ u, op.g < n ∧ ∃ c k cap, c < B ∧ (op.act = .send c k ∨ op.act = .recv c k cap ∨ op.act = .sendDone c k ∨ op.act = .recvDone c k)) (Wg : Nat) : MuteOps n B Wg u := by
  refine ⟨fun op hop => ?_, fun op hop => (h op hop).1, fun op hop => ?_, fun op hop => ?_⟩ <;> obtain ⟨_, c, k, cap, hc, e | e | e | e⟩ := h op hop <;> rw [e] <;> first | rfl | exact hc | (intro m e; cases e)
theorem out_two {gs' : Array Goroutine} {w' : World} {ops : Array MemOp} (hrun : runT P (crowd gs w sl) i = (.next (crowd gs' w' sl), ops)) (hsz : gs'.size = gs.size)
    (hAll : ∃ x2 τ2, All P E F gs' w' (t ++ ops) own x2 τ2 cl st sm ∧ wei E τ2 gs.size < wei E τ gs.size) : Out P E F gs w sl t x τ i := by
  obtain ⟨x2, τ2, h1, h2⟩ := hAll
  exact ⟨_, _, hrun, .inr ⟨_, _, _, _, _, _, _, _, _, rfl, h1, .inl (by rw [hsz]; exact h2)⟩⟩
theorem notClosed (h : All P E F gs w t own x τ false st sm) : ∀ cl s r, w.heap[E.cn]? = some (.chan 0 #[] cl s r false) → cl = false := fun cl s r hc => by
  obtain ⟨s', r', hc'⟩ := h.inv.cn
  rw [hc'] at hc; cases hc; rfl

theorem offered {a : Array Goroutine} {j q : Nat} {g : Goroutine} {cs : Array CommCase} {sh : CommShape} {c : CommCase} {v : Value} (h : a[j]? = some (parked g cs sh)) (hc : cs[q]? = some c) (hs : c.send = some v) : offeredValue a j q = v := by
  unfold offeredValue
  rw [h]
  simp [parked, hc, hs]
/-- A worker comes to take, the main waits with a number. -/
theorem at_rc_meet (hE : E.Ok) (hF : F.Ok P E) (h : All P E F gs w t own x τ false st sm) (hi : gs[i]? = some g) (hτ : τ i = .rc) (hs : F.Recv g) {next : Nat} {gl : List Nat} {val : Vals} (hτ0 : τ 0 = .selP next gl val) (hn : next < E.n) : Out P E F gs w sl t x τ i := by
  obtain ⟨h0, hm⟩ := not0 h hi (by rw [hτ]; rfl)
  have hlt := (Array.getElem?_eq_some_iff.1 hi).1
  have hlt0 : 0 < gs.size := by omega
  obtain ⟨s, r, hcn⟩ := h.inv.cn
  have hst := (hF.recv g hs).2 w h.inv.kn
  have hs0 := h.inv.sit 0 gs[0] (Array.getElem?_eq_getElem hlt0)
  rw [hτ0] at hs0
  obtain ⟨e0, hsel, hrl⟩ := hs0
  have h0get : gs[0]? = some (parked (x 0).g (selCases E F next) F.sh) := by rw [← e0]; exact Array.getElem?_eq_getElem hlt0
  have hc0 : (selCases E F next)[0]? = some (scase E.cn (.int .i64 next) F.z0) := by unfold selCases; rw [if_pos hn]; rfl
  have hoff : (0 : Nat) ∈ offersAt (parked (x 0).g (selCases E F next) F.sh) E.cn true := mem_offers.2 ⟨_, hc0, rfl, rfl⟩
  have hone : ∀ (k : Nat) (c : CommCase), (rcs E F)[k]? = some c → k = 0 ∧ c = rcase E.cn F.z0 := fun k c hk => by
    unfold rcs at hk
    rcases k with _ | k
    · simp only [List.getElem?_toArray, List.getElem?_cons_zero, Option.some.injEq] at hk
      exact ⟨rfl, hk.symm⟩
    · simp at hk
  obtain ⟨k, c, j, q, d, hk, hway, hd, heff⟩ := comm_picks (P := P) (sl := sl) hi (by rw [hm]; exact hst) (fun cc hcc => by
      obtain ⟨k, hk⟩ := Array.mem_iff_getElem?.1 hcc
      rw [(hone k cc hk).2]; exact made_recv _ hcn) (k0 := 0) (c0 := rcase E.cn F.z0) rfl (ways_ne rfl hcn h0get (Ne.symm h0) hoff) (fun k c hk y hy => by
      obtain ⟨rfl, rfl⟩ := hone k c hk
      obtain ⟨j, q, _, e, _⟩ := mem_ways rfl hcn hy
      exact ⟨j, q, e⟩)
  obtain ⟨rfl, rfl⟩ := hone k c hk
  obtain ⟨j', q', o, e, hj, ho, hq⟩ := mem_ways rfl hcn hway
  cases e
  have hjq : j = 0 ∧ q = 0 := by
    rcases offers_class hF h ho hq with ⟨a, b, c, e, he⟩ | ⟨_, _, hb, _⟩ | ⟨_, _, _, _, hr, _⟩
    · refine ⟨only0 h ho (by rw [e]; rfl), ?_⟩
      rcases he with ⟨_, _, hq, _⟩ | ⟨_, hb, _⟩
      · exact hq
      · cases hb
    · cases hb
    · exact absurd hr hE.nd
  obtain ⟨rfl, rfl⟩ := hjq
  have hrun := heff E.cn 0 s r #[] false false rfl hcn
  have hst0 := stand_get (gs := gs) (i := i) hj h0get
  have hfp : ∀ v, finishPartner P (gs.setIfInBounds i ph) 0 0 v = (gs.setIfInBounds i ph).setIfInBounds 0 ((x 0).g.finishComm P (selCases E F next) F.sh 0 v false) := fun v => by
    rw [finishPartner_at P _ hst0 rfl, hc0]
    rfl
  have hov : offeredValue (gs.setIfInBounds i ph) 0 0 = .int .i64 next := offered hst0 hc0 rfl
  simp only [rcase] at hrun
  rw [hfp, hov, set_stand2, ev_nil] at hrun
  have hm2 := ChMove.set hE hd hcn (.inl rfl) (notClosed h)
  have hl : E.cn < w.heap.size := Nat.lt_of_lt_of_le hE.cn h.inv.kn.low
  refine out_two hrun (by simp) (h.hand hE hm2 (mute4 (fun op hop => ?_) _) hlt h0 (.inr hτ0) hn (.inl hτ) (hF.sel_send next gl val _ _ _ _ hsel hn (h.dat.selL next gl val (.inr hτ0)) _ (hrl.trans ?_) (hm2.kn hE h.inv.kn)) (hF.recv_val g hs next hn _ (hm2.kn hE h.inv.kn)))
  · simp only [Array.empty_append, List.mem_toArray, List.mem_cons, List.not_mem_nil, or_false] at hop
    rcases hop with rfl | rfl | rfl | rfl
    · exact ⟨hlt0, _, _, 0, hl, .inl rfl⟩
    · exact ⟨hlt, _, _, _, hl, .inr (.inl rfl)⟩
    · exact ⟨hlt0, _, _, 0, hl, .inr (.inr (.inl rfl))⟩
    · exact ⟨hlt, _, _, 0, hl, .inr (.inr (.inr rfl))⟩
  · refine ⟨fun b hb => ?_, Nat.le_of_eq hm2.size.symm, rfl, hd, rfl, rfl⟩
    have := hE.cn; have := hE.cd
    rcases h.inv.inA 0 b hb with hb | hb
    · exact hm2.aside b (hE.base b hb).2.2.1 (hE.base b hb).2.2.2.1
    · exact hm2.aside b (by omega) (by omega)
/-- A worker comes with what it has made, the main waits. -/
theorem at_wk_meet (hE : E.Ok) (hF : F.Ok P E) (h : All P E F gs w t own x τ false st sm) (hi : gs[i]? = some g) {a : Nat} (hτ : τ i = .wk a) (hs : SSend P E F a (x i).A (x i).M g w) {next : Nat} {gl : List Nat} {val : Vals} (hτ0 : τ 0 = .selP next gl val) : Out P E F gs w sl t x τ i := by
  obtain ⟨h0, hm⟩ := not0 h hi (by rw [hτ]; rfl)
  have hlt := (Array.getElem?_eq_some_iff.1 hi).1
  have hlt0 : 0 < gs.size := by omega
  obtain ⟨s, r, hcd⟩ := h.inv.cd
  obtain ⟨v, e, hat, C, hC, hrc⟩ := hs
  have hst := hat.2.1 w h.inv.kn
  have hs0 := h.inv.sit 0 gs[0] (Array.getElem?_eq_getElem hlt0)
  rw [hτ0] at hs0
  obtain ⟨e0, hsel, hrl⟩ := hs0
  have h0get : gs[0]? = some (parked (x 0).g (selCases E F next) F.sh) := by rw [← e0]; exact Array.getElem?_eq_getElem hlt0
  have hc1 : (selCases E F next)[1]? = some (rcase E.cd F.z5) := rfl
  have hoff : (1 : Nat) ∈ offersAt (parked (x 0).g (selCases E F next) F.sh) E.cd false := mem_offers.2 ⟨_, hc1, rfl, rfl⟩
  have hone : ∀ (k : Nat) (c : CommCase), (scs E F a v e)[k]? = some c → k = 0 ∧ c = scase E.cd (Made a v e) F.zs := fun k c hk => by
    unfold scs at hk
    rcases k with _ | k
    · simp only [List.getElem?_toArray, List.getElem?_cons_zero, Option.some.injEq] at hk
      exact ⟨rfl, hk.symm⟩
    · simp at hk
  obtain ⟨k, c, j, q, d, hk, hway, hd, heff⟩ := comm_picks (P := P) (sl := sl) hi (by rw [hm]; exact hst) (fun cc hcc => by
      obtain ⟨k, hk⟩ := Array.mem_iff_getElem?.1 hcc
      rw [(hone k cc hk).2]; exact made_send _ _ hcd) (k0 := 0) (c0 := scase E.cd (Made a v e) F.zs) rfl (ways_ne rfl hcd h0get (Ne.symm h0) hoff) (fun k c hk y hy => by
      obtain ⟨rfl, rfl⟩ := hone k c hk
      obtain ⟨j, q, _, e, _⟩ := mem_ways rfl hcd hy
      exact ⟨j, q, e⟩)
  obtain ⟨rfl, rfl⟩ := hone k c hk
  obtain ⟨j', q', o, ee, hj, ho, hq⟩ := mem_ways rfl hcd hway
  cases ee
  have hjq : j = 0 ∧ q = 1 := by
    rcases offers_class hF h ho hq with ⟨a', b, c, ec, he⟩ | ⟨_, hr, _, _⟩ | ⟨_, _, _, _, _, hb, _⟩
    · refine ⟨only0 h ho (by rw [ec]; rfl), ?_⟩
      rcases he with ⟨_, hb, _, _⟩ | ⟨_, _, hq⟩
      · cases hb
      · exact hq
    · exact absurd hr.symm hE.nd
    · cases hb
  obtain ⟨rfl, rfl⟩ := hjq
  have hrun := heff E.cd 0 s r #[] false false rfl hcd
  have hst0 := stand_get (gs := gs) (i := i) hj h0get
  have hfp : ∀ v, finishPartner P (gs.setIfInBounds i ph) 0 1 v = (gs.setIfInBounds i ph).setIfInBounds 0 ((x 0).g.finishComm P (selCases E F next) F.sh 1 v true) := fun v => by
    rw [finishPartner_at P _ hst0 rfl, hc1]
    rfl
  simp only [scase] at hrun
  rw [hfp, set_stand2, ev_nil] at hrun
  have hm2 := ChMove.set hE hd hcd (.inr rfl) (notClosed h)
  have hl : E.cd < w.heap.size := Nat.lt_of_lt_of_le hE.cd h.inv.kn.low
  have ha : a < E.n := by
    have h1 := h.dat.lt i hlt a (by rw [hτ]; rfl)
    have h2 := h.dat.le
    omega
  refine out_two hrun (by simp) (h.gather hE hm2 (mute4 (fun op hop => ?_) _) hlt h0 (.inr hτ0) (.inl hτ) (hF.sel_recv next gl val _ _ _ _ hsel (h.dat.selL next gl val (.inr hτ0)) a v e ha (hE.one _ _ _ _ _ hrc).1 (hE.one _ _ _ _ _ hrc).2 _ (hrl.trans ?_) (hm2.kn hE h.inv.kn)) (hat.2.2 _ (hm2.kn hE h.inv.kn)) ⟨C, fun b hb => ?_, hrc⟩)
  · simp only [Array.empty_append, List.mem_toArray, List.mem_cons, List.not_mem_nil, or_false] at hop
    rcases hop with rfl | rfl | rfl | rfl
    · exact ⟨hlt, _, _, 0, hl, .inl rfl⟩
    · exact ⟨hlt0, _, _, _, hl, .inr (.inl rfl)⟩
    · exact ⟨hlt, _, _, 0, hl, .inr (.inr (.inl rfl))⟩
    · exact ⟨hlt0, _, _, 0, hl, .inr (.inr (.inr rfl))⟩
  · refine ⟨fun b hb => ?_, Nat.le_of_eq hm2.size.symm, rfl, hd, rfl, rfl⟩
    have := hE.cn; have := hE.cd
    rcases h.inv.inA 0 b hb with hb | hb
    · exact hm2.aside b (hE.base b hb).2.2.1 (hE.base b hb).2.2.2.1
    · exact hm2.aside b (by omega) (by omega)
  · rcases h.inv.inA i b (hC b hb) with hb | ⟨h1, h2, h3⟩
    · exact .inl hb
    · refine .inr ⟨h1, h2, fun k hk => ?_⟩
      by_cases hki : k = i
      · subst hki; rw [upd_same] at hk; exact hk
      · rw [upd_ne x _ hki] at hk
        exact hki (by rw [← (h.inv.inM k b hk).2.2, h3])
/-- The main comes, somebody waits. -/
theorem at_sel_meet (hE : E.Ok) (hF : F.Ok P E) (h : All P E F gs w t own x τ cl st sm) (hi : gs[0]? = some g) {next : Nat} {gl : List Nat} {val : Vals} (hτ : τ 0 = .sel next gl val) (hs : F.Sel next gl val (x 0).A (x 0).M g w)
    (hsome : (next < E.n ∧ ∃ k, k < gs.size ∧ τ k = .rcP) ∨ ∃ k p v e, k < gs.size ∧ τ k = .snP p v e) : Out P E F gs w sl t x τ 0 := by
  have hcl : cl = false := by have := h.dat.cl; rw [hτ] at this; exact this.symm
  subst hcl
  have hlt0 := (Array.getElem?_eq_some_iff.1 hi).1
  obtain ⟨s, r, hcn⟩ := h.inv.cn
  obtain ⟨s2, r2, hcd⟩ := h.inv.cd
  have hst := (hF.sel _ _ _ _ _ _ _ hs).2 w h.inv.kn
  have hone : ∀ (k : Nat) (c : CommCase), (selCases E F next)[k]? = some c → (k = 0 ∧ c = if next < E.n then scase E.cn (.int .i64 next) F.z0 else { chan := .chan none, send := some (.int .i64 next), zero := F.z0 }) ∨ (k = 1 ∧ c = rcase E.cd F.z5) := fun k c hk => by
    unfold selCases at hk
    rcases k with _ | _ | k
    · simp only [List.getElem?_toArray, List.getElem?_cons_zero, Option.some.injEq] at hk
      exact .inl ⟨rfl, hk.symm⟩
    · simp only [List.getElem?_toArray, List.getElem?_cons_succ, List.getElem?_cons_zero, Option.some.injEq] at hk
      exact .inr ⟨rfl, hk.symm⟩
    · simp at hk
  have hgo : ∃ (k0 : Nat) (c0 : CommCase), (selCases E F next)[k0]? = some c0 ∧ ways w (gs.setIfInBounds 0 ph) c0 ≠ [] := by
    rcases hsome with ⟨hn, k, hk, hkτ⟩ | ⟨k, p, v, e, hk, hkτ⟩
    · have hsk := h.inv.sit k gs[k] (Array.getElem?_eq_getElem hk)
      rw [hkτ] at hsk
      have hk0 : k ≠ 0 := fun ee => by rw [ee, hτ] at hkτ; cases hkτ
      refine ⟨0, scase E.cn (.int .i64 next) F.z0, by unfold selCases; rw [if_pos hn]; rfl, ways_ne (q := 0) rfl hcn (by rw [← hsk.1]; exact Array.getElem?_eq_getElem hk) hk0 (mem_offers.2 ⟨rcase E.cn F.z0, rfl, rfl, rfl⟩)⟩
    · have hsk := h.inv.sit k gs[k] (Array.getElem?_eq_getElem hk)
      rw [hkτ] at hsk
      have hk0 : k ≠ 0 := fun ee => by rw [ee, hτ] at hkτ; cases hkτ
      exact ⟨1, rcase E.cd F.z5, rfl, ways_ne (q := 0) rfl hcd (by rw [← hsk.1]; exact Array.getElem?_eq_getElem hk) hk0 (mem_offers.2 ⟨scase E.cd (Made p v e) F.zs, rfl, rfl, rfl⟩)⟩
  obtain ⟨k0, c0, hk0, hw0⟩ := hgo
  obtain ⟨k, c, j, q, d, hk, hway, hd, heff⟩ := comm_picks (P := P) (sl := sl) hi hst (fun cc hcc => by
      obtain ⟨k, hk⟩ := Array.mem_iff_getElem?.1 hcc
      rcases hone k cc hk with ⟨_, rfl⟩ | ⟨_, rfl⟩
      · split
        · exact made_send _ _ hcn
        · rfl
      · exact made_recv _ hcd) hk0 hw0 (fun k c hk y hy => by
      rcases hone k c hk with ⟨_, rfl⟩ | ⟨_, rfl⟩
      · by_cases hn : next < E.n
        · rw [if_pos hn] at hy
          obtain ⟨j, q, _, e, _⟩ := mem_ways rfl hcn hy
          exact ⟨j, q, e⟩
        · rw [if_neg hn] at hy; cases hy
      · obtain ⟨j, q, _, e, _⟩ := mem_ways rfl hcd hy
        exact ⟨j, q, e⟩)
  have rl : ∀ {w'}, ChMove E w w' → w.drawn ≤ w'.drawn → Rely (x 0).A w w' := fun {w'} hm2 hd => by
    refine ⟨fun b hb => ?_, Nat.le_of_eq hm2.size.symm, hm2.tape, hd, hm2.os, hm2.output⟩
    have := hE.cn; have := hE.cd
    rcases h.inv.inA 0 b hb with hb | hb
    · exact hm2.aside b (hE.base b hb).2.2.1 (hE.base b hb).2.2.2.1
    · exact hm2.aside b (by omega) (by omega)
  rcases hone k c hk with ⟨rfl, rfl⟩ | ⟨rfl, rfl⟩
  · by_cases hn : next < E.n
    · rw [if_pos hn] at hway heff
      obtain ⟨j', q', o, ee, hj, ho, hq⟩ := mem_ways rfl hcn hway
      cases ee
      obtain ⟨hjτ, rfl⟩ : τ j = .rcP ∧ q = 0 := by
        rcases offers_class hF h ho hq with ⟨a', b, c, ec, he⟩ | ⟨hh, _, _, hq⟩ | ⟨_, _, _, _, hr, _⟩
        · exact absurd (only0 h ho (by rw [ec]; rfl)) hj
        · exact ⟨hh, hq⟩
        · exact absurd hr hE.nd
      have hlt := (Array.getElem?_eq_some_iff.1 ho).1
      have hsj := h.inv.sit j o ho
      rw [hjτ] at hsj
      obtain ⟨rfl, hrec⟩ := hsj
      have hrun := heff E.cn 0 s r #[] false false rfl hcn
      have hst0 := stand_get (gs := gs) (i := 0) hj ho
      have hfp : ∀ v, finishPartner P (gs.setIfInBounds 0 ph) j 0 v = (gs.setIfInBounds 0 ph).setIfInBounds j ((x j).g.finishComm P (rcs E F) (.recv true) 0 v true) := fun v => by
        rw [finishPartner_at P _ hst0 rfl]; rfl
      simp only [scase] at hrun
      rw [hfp, set_stand2, set_comm' gs hj, ev_nil] at hrun
      have hm2 := ChMove.set hE hd hcn (.inl rfl) (notClosed h)
      have hl : E.cn < w.heap.size := Nat.lt_of_lt_of_le hE.cn h.inv.kn.low
      refine out_two hrun (by simp) (h.hand hE hm2 (mute4 (fun op hop => ?_) _) hlt hj (.inl hτ) hn (.inr hjτ) (hF.sel_send next gl val _ _ _ _ hs hn (h.dat.selL next gl val (.inl hτ)) _ (rl hm2 hd) (hm2.kn hE h.inv.kn)) (hF.recv_val _ hrec next hn _ (hm2.kn hE h.inv.kn)))
      simp only [Array.empty_append, List.mem_toArray, List.mem_cons, List.not_mem_nil, or_false] at hop
      rcases hop with rfl | rfl | rfl | rfl
      · exact ⟨hlt0, _, _, 0, hl, .inl rfl⟩
      · exact ⟨hlt, _, _, _, hl, .inr (.inl rfl)⟩
      · exact ⟨hlt0, _, _, 0, hl, .inr (.inr (.inl rfl))⟩
      · exact ⟨hlt, _, _, 0, hl, .inr (.inr (.inr rfl))⟩
    · rw [if_neg hn] at hway; cases hway
  · obtain ⟨j', q', o, ee, hj, ho, hq⟩ := mem_ways rfl hcd hway
    cases ee
    obtain ⟨a, v, e, hjτ, rfl⟩ : ∃ a v e, τ j = .snP a v e ∧ q = 0 := by
      rcases offers_class hF h ho hq with ⟨a', b, c, ec, he⟩ | ⟨_, hr, _⟩ | ⟨a, v, e, hh, _, _, hq⟩
      · exact absurd (only0 h ho (by rw [ec]; rfl)) hj
      · exact absurd hr.symm hE.nd
      · exact ⟨a, v, e, hh, hq⟩
    have hlt := (Array.getElem?_eq_some_iff.1 ho).1
    have hsj := h.inv.sit j o ho
    rw [hjτ] at hsj
    obtain ⟨rfl, hat⟩ := hsj
    have hrun := heff E.cd 0 s2 r2 #[] false false rfl hcd
    have hst0 := stand_get (gs := gs) (i := 0) hj ho
    have hfp : ∀ y, finishPartner P (gs.setIfInBounds 0 ph) j 0 y = (gs.setIfInBounds 0 ph).setIfInBounds j ((x j).g.finishComm P (scs E F a v e) .send 0 y false) := fun y => by
      rw [finishPartner_at P _ hst0 rfl]; rfl
    have hov : offeredValue (gs.setIfInBounds 0 ph) j 0 = Made a v e := offered (c := scase E.cd (Made a v e) F.zs) hst0 rfl rfl
    simp only [rcase] at hrun
    rw [hfp, hov, set_stand2, set_comm' gs hj, ev_nil] at hrun
    have hm2 := ChMove.set hE hd hcd (.inr rfl) (notClosed h)
    have hl : E.cd < w.heap.size := Nat.lt_of_lt_of_le hE.cd h.inv.kn.low
    have ha : a < E.n := by
      have h1 := h.dat.lt j hlt a (by rw [hjτ]; rfl)
      have h2 := h.dat.le
      omega
    obtain ⟨C, hC, hrc⟩ := h.snd j a v e hlt hjτ
    refine out_two hrun (by simp) (h.gather hE hm2 (mute4 (fun op hop => ?_) _) hlt hj (.inl hτ) (.inr hjτ) (hF.sel_recv next gl val _ _ _ _ hs (h.dat.selL next gl val (.inl hτ)) a v e ha (hE.one _ _ _ _ _ hrc).1 (hE.one _ _ _ _ _ hrc).2 _ (rl hm2 hd) (hm2.kn hE h.inv.kn)) (hat.2.2 _ (hm2.kn hE h.inv.kn)) ⟨C, fun b hb => ?_, hrc⟩)
    · simp only [Array.empty_append, List.mem_toArray, List.mem_cons, List.not_mem_nil, or_false] at hop
      rcases hop with rfl | rfl | rfl | rfl
      · exact ⟨hlt, _, _, 0, hl, .inl rfl⟩
      · exact ⟨hlt0, _, _, _, hl, .inr (.inl rfl)⟩
      · exact ⟨hlt, _, _, 0, hl, .inr (.inr (.inl rfl))⟩
      · exact ⟨hlt0, _, _, 0, hl, .inr (.inr (.inr rfl))⟩
    · refine (hC b hb).imp id fun ⟨h1, h2, h3⟩ => ⟨h1, h2, fun k hk => ?_⟩
      by_cases hkj : k = j
      · subst hkj; rw [upd_same] at hk; exact hk
      · rw [upd_ne x _ hkj] at hk; exact h3 k hk
end
end Mc
end Go.Proofs.YtbkjjknlphlhlaaDoor
namespace Go.Proofs.YtbkjjknlphlhlaaDoor
namespace Mc
open Go.Conc Go.ConcN Hd Sim Wy Ev Ms Cm
open Go.ConcR (KK WgAt stA smA g_of_ofEvents)
set_option maxRecDepth 100000

section
variable {P : Program} {E : Env} {F : Fam} {gs : Array Goroutine} {w : World} {t : Trace} {own : Nat → Nat} {x : Nat → Pt} {τ : Nat → Tag} {cl : Bool} {st sm : Int} {sl : Option (Nat × Nat)} {i : Nat} {g : Goroutine}
theorem noBusy (h : All P E F gs w t own x τ cl st sm) (hp : postT (τ 0) = true) : ∀ k, k < gs.size → busy (τ k) = none := fun k hk => by
  have hf : fullT (τ 0) = true := by cases hτ : τ 0 <;> rw [hτ] at hp <;> first | (cases hp; done) | rfl
  have h1 := h.dat.full hf
  have h2 := h.dat.sum
  have h3 : nxT E.n (τ 0) = E.n := by cases hτ : τ 0 <;> rw [hτ] at hp <;> first | (cases hp; done) | rfl
  have h4 : bT (τ k) ≤ S bT τ gs.size := le_sumTo (f := fun j => bT (τ j)) hk
  cases hb : busy (τ k) with
  | none => rfl
  | some a =>
    have : bT (τ k) = 1 := by unfold bT; rw [hb]; rfl
    omega
/-- ████ Whoever runs brings it nearer. ████ -/
theorem All.any (hE : E.Ok) (hF : F.Ok P E) (h : All P E F gs w t own x τ cl st sm) (hi : gs[i]? = some g) (hr : g.status = .running) : Out P E F gs w sl t x τ i := by
  have hs := h.inv.sit i g hi
  have main0 : isMain (τ i) = true → i = 0 := fun hm => only0 h hi hm
  cases hτ : τ i with
  | m1 r =>
    obtain rfl := main0 (by rw [hτ]; rfl)
    rw [hτ] at hs
    rcases h.local hE hF (sl := sl) hi (by rw [hτ]; rfl) hs.1 hs.2 (fun x' w' hw => by rw [hτ]; exact ⟨rfl, hw⟩) with ⟨hh, _⟩ | hh
    · exact at_m1 hE hF h hi hτ hh
    · exact hh
  | m2 r =>
    obtain rfl := main0 (by rw [hτ]; rfl)
    rw [hτ] at hs
    rcases h.local hE hF (sl := sl) hi (by rw [hτ]; rfl) hs.1 hs.2 (fun x' w' hw => by rw [hτ]; exact ⟨rfl, hw⟩) with ⟨hh, _⟩ | hh
    · exact at_m2 hE hF h hi hτ hh
    · exact hh
  | m3 r =>
    obtain rfl := main0 (by rw [hτ]; rfl)
    rw [hτ] at hs
    rcases h.local hE hF (sl := sl) hi (by rw [hτ]; rfl) hs.1 hs.2 (fun x' w' hw => by rw [hτ]; exact ⟨rfl, hw⟩) with ⟨hh, _⟩ | hh
    · exact at_m3 hE hF h hi hτ hh
    · exact hh
  | m4 r =>
    obtain rfl := main0 (by rw [hτ]; rfl)
    rw [hτ] at hs
    rcases h.local hE hF (sl := sl) hi (by rw [hτ]; rfl) hs.1 hs.2 (fun x' w' hw => by rw [hτ]; exact ⟨rfl, hw⟩) with ⟨hh, _⟩ | hh
    · exact at_m4 hE h hi hτ hh
    · exact hh
  | sel next gl val =>
    obtain rfl := main0 (by rw [hτ]; rfl)
    rw [hτ] at hs
    rcases h.local hE hF (sl := sl) hi (by rw [hτ]; rfl) hs.1 hs.2 (fun x' w' hw => by rw [hτ]; exact ⟨rfl, hw⟩) with ⟨hh, _⟩ | hh
    · by_cases hsome : (next < E.n ∧ ∃ k, k < gs.size ∧ τ k = .rcP) ∨ ∃ k p v e, k < gs.size ∧ τ k = .snP p v e
      · exact at_sel_meet hE hF h hi hτ hh hsome
      · exact at_sel_park hE hF h hi hτ hh (fun k hk p v e hn => hsome (.inr ⟨k, p, v, e, hk, hn⟩)) (fun hn k hk he => hsome (.inl ⟨hn, k, hk, he⟩))
    · exact hh
  | selP next gl val =>
    rw [hτ] at hs
    rw [hs.1] at hr; cases hr
  | clo gl val =>
    obtain rfl := main0 (by rw [hτ]; rfl)
    rw [hτ] at hs
    rcases h.local hE hF (sl := sl) hi (by rw [hτ]; rfl) hs.1 hs.2 (fun x' w' hw => by rw [hτ]; exact ⟨rfl, hw⟩) with ⟨hh, _⟩ | hh
    · exact at_clo hE hF h hi hτ hh
    · exact hh
  | wd gl val =>
    obtain rfl := main0 (by rw [hτ]; rfl)
    rw [hτ] at hs
    rcases h.local hE hF (sl := sl) hi (by rw [hτ]; rfl) hs.1 hs.2 (fun x' w' hw => by rw [hτ]; exact ⟨rfl, hw⟩) with ⟨hh, _⟩ | hh
    · exact at_wd hE hF h hi hτ hh
    · exact hh
  | wl gl val =>
    obtain rfl := main0 (by rw [hτ]; rfl)
    rw [hτ] at hs
    rcases h.local hE hF (sl := sl) hi (by rw [hτ]; rfl) hs.1 hs.2 (fun x' w' hw => by rw [hτ]; exact ⟨rfl, hw⟩) with ⟨hh, _⟩ | hh
    · by_cases hC : S cT τ gs.size = 0
      · exact at_wl0 hE hF h hi hC hτ hh
      · exact at_wl1 hE hF h hi (by omega) hτ hh
    · exact hh
  | wc v gl val =>
    obtain rfl := main0 (by rw [hτ]; rfl)
    rw [hτ] at hs
    rcases h.local hE hF (sl := sl) hi (by rw [hτ]; rfl) hs.1 hs.2 (fun x' w' hw => by rw [hτ]; exact ⟨rfl, hw⟩) with ⟨hh, _⟩ | hh
    · by_cases hC : S cT τ gs.size = v
      · exact at_wc0 hE hF h hi hC hτ hh
      · exact at_wc1 hE hF h hi hC hτ hh
    · exact hh
  | ws gl val =>
    obtain rfl := main0 (by rw [hτ]; rfl)
    rw [hτ] at hs
    rcases h.local hE hF (sl := sl) hi (by rw [hτ]; rfl) hs.1 hs.2 (fun x' w' hw => by rw [hτ]; exact ⟨rfl, hw⟩) with ⟨hh, _⟩ | hh
    · have hg := h.grp
      rw [hτ] at hg
      rcases hg with ⟨_, _, _, _, e⟩ | ⟨_, _, _, _, e⟩ | ⟨_, _, _, _, e⟩ | hg
      · exact at_ws0 hE hF h hi hτ hs.1 hs.2 hh e
      · exact at_ws0 hE hF h hi hτ hs.1 hs.2 hh e
      · exact at_ws0 hE hF h hi hτ hs.1 hs.2 hh e
      · exact at_ws1 hE hF h hi hg hτ hh
    · exact hh
  | wsB gl val =>
    rw [hτ] at hs
    rw [hs.1] at hr; cases hr
  | wl2 gl val =>
    obtain rfl := main0 (by rw [hτ]; rfl)
    rw [hτ] at hs
    rcases h.local hE hF (sl := sl) hi (by rw [hτ]; rfl) hs.1 hs.2 (fun x' w' hw => by rw [hτ]; exact ⟨rfl, hw⟩) with ⟨hh, _⟩ | hh
    · exact at_wl2 hE hF h hi hτ hh
    · exact hh
  | we gl val =>
    obtain rfl := main0 (by rw [hτ]; rfl)
    rw [hτ] at hs
    rcases h.local hE hF (sl := sl) hi (by rw [hτ]; rfl) hs.1 hs.2 (fun x' w' hw => by rw [hτ]; exact ⟨rfl, hw⟩) with ⟨hh, _⟩ | hh
    · exact at_we hE hF h hi hτ hh
    · exact hh
  | wa gl val =>
    obtain rfl := main0 (by rw [hτ]; rfl)
    rw [hτ] at hs
    rcases h.local hE hF (sl := sl) hi (by rw [hτ]; rfl) hs.1 hs.2 (fun x' w' hw => by rw [hτ]; exact ⟨rfl, hw⟩) with ⟨hh, _⟩ | hh
    · exact at_wa hE h hi hτ hh
    · exact hh
  | rc =>
    rw [hτ] at hs
    rcases h.local hE hF (sl := sl) hi (by rw [hτ]; rfl) hs.1 hs.2 (fun x' w' hw => by rw [hτ]; exact ⟨rfl, hw⟩) with ⟨hh, _⟩ | hh
    · cases cl with
      | true => exact at_rc_closed hE hF h hi hτ hh
      | false =>
        by_cases hm : ∃ a b c, τ 0 = .selP a b c ∧ a < E.n
        · obtain ⟨a, b, c, e, ha⟩ := hm
          exact at_rc_meet hE hF h hi hτ hh e ha
        · exact at_rc_park hE hF h hi hτ hh fun a b c e ha => hm ⟨a, b, c, e, ha⟩
    · exact hh
  | rcP =>
    rw [hτ] at hs
    rw [hs.1] at hr; cases hr
  | rcR => exact at_rcR hE hF h hi hτ
  | wk a =>
    rw [hτ] at hs
    rcases h.local hE hF (sl := sl) hi (by rw [hτ]; rfl) hs.1 hs.2 (fun x' w' hw => by rw [hτ]; exact ⟨rfl, hw⟩) with ⟨hh, _⟩ | hh
    · cases hc : cl with
      | true =>
        have := noBusy h (h.dat.cl.trans hc) i (Array.getElem?_eq_some_iff.1 hi).1
        rw [hτ] at this; cases this
      | false =>
        subst hc
        by_cases hm : ∃ a b c, τ 0 = .selP a b c
        · obtain ⟨a, b, c, e⟩ := hm
          exact at_wk_meet hE hF h hi hτ hh e
        · exact at_wk_park hE hF h hi hτ hh fun a b c e => hm ⟨a, b, c, e⟩
    · exact hh
  | snP a v e =>
    rw [hτ] at hs
    rw [hs.1] at hr; cases hr
  | rl =>
    rw [hτ] at hs
    rcases h.local hE hF (sl := sl) hi (by rw [hτ]; rfl) hs.1 hs.2 (fun x' w' hw => by rw [hτ]; exact ⟨rfl, hw⟩) with ⟨hh, _⟩ | hh
    · exact at_rl hE hF h hi hτ hh
    · exact hh
  | ds n =>
    rw [hτ] at hs
    cases n with
    | zero => obtain ⟨g1, h1, h2⟩ := hs; cases h1; exact at_ds hE hF h hi hτ h2
    | succ n => exact at_dsS hE hF h hi hτ hs
  | sb n =>
    rw [hτ] at hs
    cases n with
    | zero => obtain ⟨g1, h1, h2⟩ := hs; cases h1; exact at_sb hE hF h hi hτ h2
    | succ n => exact at_sbS hE hF h hi hτ hs
  | l1 n =>
    rw [hτ] at hs
    cases n with
    | zero => obtain ⟨g1, h1, h2⟩ := hs; cases h1; exact at_l1 hE hF h hi hτ h2
    | succ n => exact at_l1S hE hF h hi hτ hs
  | l2 n =>
    rw [hτ] at hs
    cases n with
    | zero => obtain ⟨g1, h1, h2⟩ := hs; cases h1; exact at_l2 hE hF h hi hτ h2
    | succ n => exact at_l2S hE hF h hi hτ hs
  | l3 n =>
    rw [hτ] at hs
    cases n with
    | zero => obtain ⟨g1, h1, h2⟩ := hs; cases h1; exact at_l3 hE hF h hi hτ h2
    | succ n => exact at_l3S hE hF h hi hτ hs
  | quit n => exact at_quit hE hF h hi hτ hr

/-- Somebody runs. -/
theorem All.some_runs (hE : E.Ok) (hF : F.Ok P E) (h : All P E F gs w t own x τ cl st sm) : ∃ (i : Nat) (g : Goroutine), gs[i]? = some g ∧ g.status = .running := by
  have hb := h.inv.b0
  have hkn := h.inv.kn
  have at_ : ∀ i, (hi : i < gs.size) → (∀ a b c, τ i ≠ .selP a b c) → (∀ a b, τ i ≠ .wsB a b) → τ i ≠ .rcP → (∀ a b c, τ i ≠ .snP a b c) → (∀ n, τ i ≠ .quit n) → ∃ (i : Nat) (g : Goroutine), gs[i]? = some g ∧ g.status = .running := fun i hi h1 h2 h3 h4 h5 =>
    ⟨i, gs[i], Array.getElem?_eq_getElem hi, sit_run hF hkn (h.inv.sit i _ (Array.getElem?_eq_getElem hi)) h1 h2 h3 h4 h5⟩
  -- one who is counted, and is no main
  by_cases h00 : 0 < gs.size
  · by_cases hsel : ∃ a b c, τ 0 = .selP a b c
    · obtain ⟨next, gl, val, e⟩ := hsel
      have hl := h.dat.selL next gl val (.inr e)
      have hp : postT (τ 0) = false := by rw [e]; rfl
      by_cases hn : next < E.n
      · have hc := h.cb
        rw [e] at hc
        have hc : S cT τ gs.size = F.kw := hc
        have hkw := hF.kw
        obtain ⟨k, hk, hck⟩ := sumTo_pos (f := fun k => cT (τ k)) (show 0 < S cT τ gs.size by omega)
        have hk0 : k ≠ 0 := fun ee => by rw [ee, e] at hck; simp [cT] at hck
        refine at_ k hk (fun a b c ee => hk0 ((h.inv.mn k hk).1 (by rw [ee]; rfl))) (fun a b ee => hk0 ((h.inv.mn k hk).1 (by rw [ee]; rfl))) (h.dat.noR _ _ _ e hn k hk) (fun a v e' => h.dat.noS _ _ _ e k hk a v e') fun n ee => ?_
        rw [ee] at hck; simp [cT] at hck
      · have hs := h.dat.sum
        have hle := h.dat.le
        rw [e] at hs hle
        have hs : gl.length + S bT τ gs.size = next := hs
        have hle : next ≤ E.n := hle
        obtain ⟨k, hk, hbk⟩ := sumTo_pos (f := fun k => bT (τ k)) (show 0 < S bT τ gs.size by omega)
        refine at_ k hk (fun a b c ee => ?_) (fun a b ee => ?_) (fun ee => ?_) (fun a v e' => h.dat.noS _ _ _ e k hk a v e') fun n ee => ?_
        · rw [ee] at hbk; simp [bT, busy] at hbk
        · rw [ee] at hbk; simp [bT, busy] at hbk
        · rw [ee] at hbk; simp [bT, busy] at hbk
        · rw [ee] at hbk; simp [bT, busy] at hbk
    · by_cases hws : ∃ a b, τ 0 = .wsB a b
      · obtain ⟨gl, val, e⟩ := hws
        have hsm := h.nb gl val e
        have hp : postT (τ 0) = true := by rw [e]; rfl
        have hnb := noBusy h hp
        have hg := h.grp
        rw [e] at hg
        have go : ∀ k, (hk : k < gs.size) → k ≠ 0 → (∀ n, τ k ≠ .quit n) → ∃ (i : Nat) (g : Goroutine), gs[i]? = some g ∧ g.status = .running := fun k hk hk0 hq =>
          at_ k hk (fun a b c ee => hk0 ((h.inv.mn k hk).1 (by rw [ee]; rfl))) (fun a b ee => hk0 ((h.inv.mn k hk).1 (by rw [ee]; rfl))) (h.dat.late hp k hk) (fun a v e' ee => by have := hnb k hk; rw [ee] at this; cases this) hq
        rcases hg with ⟨g0, _⟩ | ⟨_, g0, _⟩ | ⟨_, _, g0, _⟩ | ⟨_, _, _, _, g0⟩
        · obtain ⟨k, hk, hck⟩ := sumTo_pos (f := fun k => cT (τ k)) (show 0 < S cT τ gs.size by omega)
          exact go k hk (fun ee => by rw [ee, e] at hck; simp [cT] at hck) fun n ee => by rw [ee] at hck; simp [cT] at hck
        · obtain ⟨k, hk, hck⟩ := sumTo_pos (f := fun k => lT (τ k)) (show 0 < S lT τ gs.size by omega)
          exact go k hk (fun ee => by rw [ee, e] at hck; simp [lT] at hck) fun n ee => by rw [ee] at hck; simp [lT] at hck
        · obtain ⟨k, hk, hck⟩ := sumTo_pos (f := fun k => gT (τ k)) (show 0 < S gT τ gs.size by omega)
          exact go k hk (fun ee => by rw [ee, e] at hck; simp [gT] at hck) fun n ee => by rw [ee] at hck; simp [gT] at hck
        · rw [hsm] at g0; cases g0
      · have hm := (h.inv.mn 0 h00).2 rfl
        exact at_ 0 h00 (fun a b c e => hsel ⟨a, b, c, e⟩) (fun a b e => hws ⟨a, b, e⟩) (fun e => by rw [e] at hm; cases hm) (fun a b c e => by rw [e] at hm; cases hm) (fun n e => by rw [e] at hm; cases hm)
  · exact absurd h.inv.b0 (by have := hE.b0; omega)
theorem All.awake_all (hF : F.Ok P E) (h : All P E F gs w t own x τ cl st sm) : ∀ g ∈ gs, awake g := by
  intro g hg
  obtain ⟨i, hi⟩ := Array.mem_iff_getElem?.1 hg
  have hs := h.inv.sit i g hi
  have hd := h.inv.deaf i g hi
  have key : g.status = .running ∨ g.status = .blocked ∨ g.status = .finished := by
    have sr := fun a b c d e => sit_run hF h.inv.kn hs a b c d e
    cases hτ : τ i with
    | selP a b c => rw [hτ] at hs; rw [hs.1]; exact .inr (.inl rfl)
    | wsB a b => rw [hτ] at hs; rw [hs.1]; exact .inr (.inl rfl)
    | rcP => rw [hτ] at hs; rw [hs.1]; exact .inr (.inl rfl)
    | snP a b c => rw [hτ] at hs; rw [hs.1]; exact .inr (.inl rfl)
    | quit n =>
      rw [hτ] at hd
      have hq : QuitsD P n (Deaf t i) g := hd
      exact hq.status.imp id .inr
    | _ => exact .inl (sr (by rw [hτ]; simp) (by rw [hτ]; simp) (by rw [hτ]; simp) (by rw [hτ]; simp) (by rw [hτ]; simp))
  intro tm e
  rcases key with k | k | k <;> rw [k] at e <;> cases e

/-! ### from its beginning to its join -/
def Lt (P : Program) (E : Env) : Mu (lower P E) × Nat → Mu (lower P E) × Nat → Prop := Prod.Lex Down (· < ·)
theorem lt_wf : WellFounded (Lt P E) := (Prod.lex ⟨_, down_wf⟩ Nat.lt_wfRel).wf
theorem All.runs (hE : E.Ok) (hF : F.Ok P E) (μ : Mu (lower P E) × Nat) : ∀ {gs : Array Goroutine} {w : World} {t : Trace} {own : Nat → Nat} {x : Nat → Pt} {τ : Nat → Tag} {cl : Bool} {st sm : Int} {sl : Option (Nat × Nat)}, All P E F gs w t own x τ cl st sm → μ.1.1 = (wei E τ gs.size, poses P E F τ x gs.size) → μ.2 = flag gs →
    ∃ n m' t', runNT P n (crowd gs w sl) t = (.next m', t') ∧ Goal P E F m' t' := by
  induction μ using (lt_wf (P := P) (E := E)).induction with
  | _ μ ih =>
    intro gs w t own x τ cl st sm sl h hμ1 hμ2
    obtain ⟨i, g, d, sl', hi, hg, hd, hst⟩ := crowd_pick' (P := P) (w := w) (sl := sl) (h.awake_all hF) (h.some_runs hE hF)
    have h' := h.at hE hF hd
    obtain ⟨m', ops, hrun, hout⟩ := h'.any hE hF (sl := sl') hi hg
    rcases hout with hgoal | ⟨gs', w', sl2, own', x', τ', cl', st', sm', rfl, hAll, hnear⟩
    · exact ⟨1, m', t ++ ops, by simp only [runNT, hst, hrun], hgoal⟩
    · have hlt : Lt P E (⟨(wei E τ' gs'.size, poses P E F τ' x' gs'.size), hAll.acc⟩, flag gs') μ := by
        obtain ⟨⟨⟨N, L⟩, hL⟩, fl⟩ := μ
        dsimp only at hμ1 hμ2
        cases hμ1; subst hμ2
        rcases hnear with hn | ⟨hn, hl | ⟨hl, hf⟩⟩
        · exact .left _ _ (.inl hn)
        · exact .left _ _ (.inr ⟨hn, hl⟩)
        · have e : (⟨(wei E τ' gs'.size, poses P E F τ' x' gs'.size), hAll.acc⟩ : Mu (lower P E)) = ⟨(wei E τ gs.size, poses P E F τ x gs.size), hL⟩ := Subtype.ext (by dsimp only; rw [hn, hl])
          rw [e]
          exact .right _ hf
      obtain ⟨n, m2, t2, h1, h2⟩ := ih _ hlt (sl := sl2) hAll rfl rfl
      exact ⟨n + 1, m2, t2, by simp only [runNT, hst, hrun]; exact h1, h2⟩

/-- ████ ████ -/
theorem each_runs (hE : E.Ok) (hF : F.Ok P E) {gs : Array Goroutine} {w : World} {t : Trace} {sl : Option (Nat × Nat)} {g : Goroutine} {B0 : Nat} (hb : gs.size = E.b0) (hp : E.p = t.size) (hlow : E.Low = w.heap.size) (hB0 : B0 ≤ E.Wg) (hW0 : E.W0 = w)
    (h0 : gs[0]? = some g) (hist : Hist (Sh E) B0 E.b0 t) (leave : ∃ q : Nat → Nat, ∀ i g, 0 < i → gs[i]? = some g → QuitsD P (q i) (Deaf t i) g) (above : ∀ i, gs.size ≤ i → Deaf t i = 0)
    (hwg : WgAt 83 E.Wg w 0 0) (hcn : ∃ s r, w.heap[E.cn]? = some (.chan 0 #[] false s r false)) (hcd : ∃ s r, w.heap[E.cd]? = some (.chan 0 #[] false s r false)) (hway : NextM P E F F.kw g w) :
    ∃ n m' t', runNT P n (crowd gs w sl) t = (.next m', t') ∧ Goal P E F m' t' := by
  obtain ⟨q, hq⟩ := leave
  have hE0 := hE.b0
  have hkn : Kn E w := ⟨⟨0, 0, hwg⟩, fun b _ => by rw [hW0], by omega, by rw [hW0], by rw [hW0], by rw [hW0]⟩
  obtain ⟨k', hk'⟩ : ∃ k', F.kw = k' + 1 := ⟨F.kw - 1, by have := hF.kw; omega⟩
  rw [hk'] at hway
  have hway : WayE P E true (SM1 P E F (NextM P E F k')) no no g w := hway
  let x : Nat → Pt := fun _ => ⟨no, no, g, w⟩
  let τ : Nat → Tag := fun k => if k = 0 then .m1 k' else .quit (q k)
  have t0 : τ 0 = .m1 k' := rfl
  have tk : ∀ k, k ≠ 0 → τ k = .quit (q k) := fun k hk => if_neg hk
  have sumz : ∀ φ : Tag → Nat, φ (.m1 k') = 0 → (∀ n, φ (.quit n) = 0) → S φ τ gs.size = 0 := fun φ h1 h2 => by
    have : sumTo gs.size (fun k => φ (τ k)) ≤ sumTo gs.size fun _ => 0 := sumTo_le' fun k _ => by
      by_cases hk : k = 0
      · subst hk; rw [t0, h1]; exact Nat.le_refl _
      · rw [tk k hk, h2]; exact Nat.le_refl _
    have z : ∀ n, (sumTo n fun _ => 0) = 0 := fun n => by induction n with
      | zero => rfl
      | succ n ih => simp only [sumTo, ih]
    rw [z] at this
    exact Nat.le_zero.1 this
  have hI : Inv P E F gs w t (fun _ => 0) x τ false := by
    have htr := Tr.begin (B := w.heap.size) hE hist hp hB0 (by have := hE.wg; omega) (by omega)
    refine ⟨by omega, hkn, by rw [hb]; exact htr, hcn, hcd, fun i b hb => hb.elim, fun i b hb => hb.elim, fun i o ho => ?_, fun i o ho => ?_, fun i hib his hr => ?_, fun i his => ?_, fun i hi0 hib => ⟨_, tk i hi0⟩, fun hc => (by cases hc), above⟩
    · by_cases hi : i = 0
      · subst hi
        rw [h0] at ho; cases ho
        rw [t0]; exact ⟨rfl, Rely.refl _ _, hway⟩
      · rw [tk i hi]; trivial
    · by_cases hi : i = 0
      · subst hi; rw [t0]; exact hist.past.hears
      · rw [tk i hi]; exact hq i o (by omega) ho
    · omega
    · by_cases hi : i = 0
      · subst hi; rw [t0]; simp [isMain]
      · rw [tk i hi]; simp [isMain, hi]
  have hA : All P E F gs w t (fun _ => 0) x τ false 0 0 := by
    have sc := sumz cT rfl (fun _ => rfl)
    have sl' := sumz lT rfl (fun _ => rfl)
    have sg := sumz gT rfl (fun _ => rfl)
    have sb := sumz bT rfl (fun _ => rfl)
    refine ⟨hI, hwg, ?_, ?_, ⟨?_, Nat.zero_le _, fun i _ a ha => ?_, fun a ha => absurd ha (Nat.not_lt_zero _), fun a b c hh => ?_, fun hf => (by cases hf), fun _ i hib his => ?_, fun hp => (by cases hp), rfl, fun a b c hh => (by cases hh), fun a b c hh => (by cases hh)⟩, fun i a v e _ hh => ?_, fun a ha => (by cases ha.1), fun hp => (by cases hp), fun a b hh => (by cases hh), fun i _ n hn => ?_⟩
    · rw [t0, sc, sl', sg]; exact ⟨rfl, rfl, by simp, rfl⟩
    · rw [t0, sc]; show 0 + (k' + 1) = F.kw; omega
    · rw [t0, sb]; rfl
    · by_cases hi : i = 0
      · subst hi; rw [t0] at ha; cases ha
      · rw [tk i hi] at ha; cases ha
    · rcases hh with hh | hh <;> cases hh
    · omega
    · by_cases hi : i = 0
      · subst hi; rw [t0] at hh; cases hh
      · rw [tk i hi] at hh; cases hh
    · by_cases hi : i = 0
      · subst hi; rw [t0] at hn; rcases hn with hn | hn | hn | hn | hn <;> cases hn
      · rw [tk i hi] at hn; rcases hn with hn | hn | hn | hn | hn <;> cases hn
  exact hA.runs hE hF (⟨(wei E τ gs.size, poses P E F τ x gs.size), hA.acc⟩, flag gs) rfl rfl
end
end Mc
end Go.Proofs.YtbkjjknlphlhlaaDoor
