/- A worker's task, from what its region leaves: to its send, and back to its receive. -/
import Derived.Test.YtbkjjknlphlhlaaDoorZ31
namespace Go.Proofs.YtbkjjknlphlhlaaDoor
namespace Mc
open Go.Conc Go.ConcN Hd Sim Wy Ev
open Go.ConcR (KK WgAt stA smA mk)
set_option maxRecDepth 100000
section
variable (E : Env) (b3 b5 b7 b8 : Addr)
/-- Behind the region in which it calls 'do'. -/
def RegW (i : Nat) : Stop := fun A _ g w => ∃ U p e, WT E.Wg b7 b8 b3 b5 E.cn U ∧ U[5]? = some (.int .i64 i) ∧ U[6]? = some (.int .i64 p) ∧ U[7]? = some e ∧ (e = .nilIface ∨ ∃ ti vi, e = .iface ti vi) ∧ g = RB E.Wg b7 b8 b3 b5 E.cn U ∧ ∃ C, (∀ b, C b → A b) ∧ E.Rc C i (.int .i64 p) e w
end
section
variable {E : Env} {c : Frame} {cs : List Frame} {b3 b5 b7 b8 : Addr} {k : Nat} {tp : Option Addr} {cp : Nat} (h8 : Holds1 E b8 (.chan (some E.cd)))
 include h8
theorem task_of (hReg : ∀ T, WT E.Wg b7 b8 b3 b5 E.cn T → ∀ i, i < E.n → ∀ w, Kn E w → WayE Tryd.prog E false (RegW E b3 b5 b7 b8 i) E.Base no (RA E.Wg b7 b8 b3 b5 E.cn T i) w) :
    ∀ T, WT E.Wg b7 b8 b3 b5 E.cn T → ∀ i, i < E.n → ∀ w, Kn E w → WayE Tryd.prog E false (SSend Tryd.prog E (FamW E c cs b3 b5 b7 b8 k tp cp) i) E.Base no (RV E.Wg b7 b8 b3 b5 E.cn T i) w := by
  intro T hT i hi w hk
  refine Way.idle (still_idle (r_to E.Wg b7 b8 b3 b5 E.cn T hT i)) ((hReg T hT i hi w hk).seq fun A M g w h => ?_)
  by_cases hx : ∃ w1, Rely A w w1 ∧ Kn E w1
  · obtain ⟨w1, r1, k1⟩ := hx
    obtain ⟨U, p, e, hU, h5, h6, h7, he, hg, _⟩ := h w1 r1 k1
    subst hg
    have both : (Still Tryd.prog false 1 (RB E.Wg b7 b8 b3 b5 E.cn U) (RC E.Wg b7 b8 b3 b5 E.cn U) ∧ (RC E.Wg b7 b8 b3 b5 E.cn U).status = .running ∧ loadOf (RC E.Wg b7 b8 b3 b5 E.cn U) = some (73, .pointer (some b8)) ∧ (RC E.Wg b7 b8 b3 b5 E.cn U).frame.fn = 33 ∧
        Still Tryd.prog false 4 (fin (RC E.Wg b7 b8 b3 b5 E.cn U) (.chan (some E.cd))) (RD E.Wg b7 b8 b3 b5 E.cn E.cd U) ∧ (RD E.Wg b7 b8 b3 b5 E.cn E.cd U).status = .running ∧
        (∀ cs, WT E.Wg b7 b8 b3 b5 E.cn (RD E.Wg b7 b8 b3 b5 E.cn E.cd U).frame.tmps ∧ Still Tryd.prog false 5 (RE E.Wg b7 b8 b3 b5 E.cn E.cd U cs) (BR E.Wg b7 b8 b3 b5 E.cn (RD E.Wg b7 b8 b3 b5 E.cn E.cd U).frame.tmps))) ∧
        ∀ w, stepG Tryd.prog false (RD E.Wg b7 b8 b3 b5 E.cn E.cd U) w = .comm (RD E.Wg b7 b8 b3 b5 E.cn E.cd U) #[scase E.cd (.agg #[.int .i64 i, .int .i64 p, e]) (.tuple #[])] true .send w #[] := by
      rcases he with rfl | ⟨ti, vi, rfl⟩
      · obtain ⟨a1, a2, a3, a4, a5, a6, _, _, a8⟩ := r_on_nil E.Wg b7 b8 b3 b5 E.cn U hU E.cd h5 h6 h7
        exact ⟨⟨a1, a2, a3, a4, a5, a6, a8⟩, (r_send_nil E.Wg b7 b8 b3 b5 E.cn U hU E.cd h5 h6 h7).1⟩
      · obtain ⟨a1, a2, a3, a4, a5, a6, _, _, a8⟩ := r_on_err E.Wg b7 b8 b3 b5 E.cn U hU E.cd h5 h6 h7
        exact ⟨⟨a1, a2, a3, a4, a5, a6, a8⟩, (r_send_err E.Wg b7 b8 b3 b5 E.cn U hU E.cd h5 h6 h7).1⟩
    obtain ⟨⟨a1, a2, a3, a4, a5, a6, a8⟩, a7⟩ := both
    have at_ : AtSend Tryd.prog E (FamW E c cs b3 b5 b7 b8 k tp cp) i (.int .i64 p) e (RD E.Wg b7 b8 b3 b5 E.cn E.cd U) := by
      refine ⟨a6, fun w _ => a7 w, fun w _ => ?_⟩
      obtain ⟨b1, b2⟩ := a8 (scs E (FamW E c cs b3 b5 b7 b8 k tp cp) i (.int .i64 p) e)
      exact Way.idle (still_idle b2) (way_stop fun w => ⟨_, b1, rfl⟩)
    refine Way.idle (still_idle a1) (Way.idle (load_idle h8 a3 a2 (fun w => by kernel_rfl) (fun w => by kernel_rfl) (by rw [a4]; kernel_rfl)) (Way.idle (still_idle a5) (.stop fun w2 r2 k2 => ?_)))
    obtain ⟨U', p', e', hU', h5', h6', h7', he', hg', C, hC, hrc⟩ := h w2 r2 k2
    have hUU : U = U' := congrArg (fun g : Goroutine => g.frame.tmps) hg'
    subst hUU
    rw [h6] at h6'; cases h6'
    rw [h7] at h7'; cases h7'
    exact ⟨_, _, at_, C, hC, hrc⟩
  · exact .stop fun w1 r1 k1 => absurd ⟨w1, r1, k1⟩ hx
end
end Mc
end Go.Proofs.YtbkjjknlphlhlaaDoor
namespace Go.Proofs.YtbkjjknlphlhlaaDoor
namespace Mc
open Go.Conc Sim Ev Wy
set_option maxRecDepth 100000
def dstOf (j : Nat) : Nat := match j with
  | 0 => 13 | 1 => 14 | 2 => 15 | 3 => 16 | 4 => 17 | 5 => 18 | 6 => 19 | 7 => 12 | 8 => 20 | 9 => 21 | 10 => 6 | _ => 7
theorem dst_inj {i j : Nat} (hi : i < 12) (hj : j < 12) (h : dstOf i = dstOf j) : i = j := by
  have : ∀ i, i < 12 → ∀ j, j < 12 → dstOf i = dstOf j → i = j := by decide
  exact this i hi j hj h
theorem dst_old {i s : Nat} (hi : i < 12) (hs : s ∈ [0, 1, 2, 3, 4, 5, 8]) : dstOf i ≠ s := by
  have : ∀ i, i < 12 → ∀ s ∈ [0, 1, 2, 3, 4, 5, 8], dstOf i ≠ s := by decide
  exact this i hi s hs
theorem dst_lt {i : Nat} (hi : i < 12) : dstOf i < 27 := by
  have : ∀ i, i < 12 → dstOf i < 27 := by decide
  exact this i hi
section
variable (E : Env) (i : Nat) (fv L : Value) (tp : Option Addr) (n cp : Nat) (pl : Addr)
def valOf (p : Int) (e : Value) (j : Nat) : Value := match j with
  | 0 => fv | 1 => .int .i64 i | 2 => .slice tp n cp | 3 => .int .i64 i | 4 => .pointer (some pl) | 5 => L | 6 => .tuple #[.int .i64 p, e] | 7 => .tuple #[.int .i64 p, e] | 8 => .int .i64 p | 9 => e | 10 => .int .i64 p | _ => e
/-- What holds of the slots: T as it began. -/
structure Iv (ds : List Deferred) (T : Array Value) (listed : Array Bool) (A : Nat → Prop) (a : Act) (w : World) : Prop where
  ds : a.defers = ds
  size : a.tmps.size = 27
  old : ∀ s ∈ [0, 1, 2, 3, 4, 5, 8], a.tmps[s]? = T[s]?
  six : ∀ j, 7 ≤ j → j < 12 → listed.getD j true = true → listed.getD 6 true = true
  val : ∃ p e C, (listed.getD 6 true = true → (∀ b, C b → A b) ∧ E.Rc C i (.int .i64 p) e w ∧ (e = .nilIface ∨ ∃ ti vi, e = .iface ti vi)) ∧ ∀ j, j < 12 → listed.getD j true = true → a.tmps[dstOf j]? = some (valOf i fv L tp n cp pl p e j)
variable {E i fv L tp n cp pl} {ds : List Deferred} {T : Array Value} {listed : Array Bool} {A A' : Nat → Prop} {a : Act} {w w' : World}
theorem Iv.rely (hE : E.Ok) (h : Iv E i fv L tp n cp pl ds T listed A a w) (r : Rely A w w') : Iv E i fv L tp n cp pl ds T listed A a w' := by
  obtain ⟨p, e, C, h1, h2⟩ := h.val
  exact { h with val := ⟨p, e, C, fun hl => let ⟨x, y, z⟩ := h1 hl; ⟨x, hE.rc C i _ e w w' y fun b hb => r.keep b (x b hb), z⟩, h2⟩ }
theorem getD_set {j k : Nat} (hk : k < listed.size) : (listed.setIfInBounds k true).getD j true = if j = k then true else listed.getD j true := by
  by_cases h : j = k
  · subst h; simp [Array.getD, hk]
  · rw [if_neg h]; exact getD_set_ne true (Ne.symm h)
/-- Another one has gone. -/
theorem Iv.put (h : Iv E i fv L tp n cp pl ds T listed A a w) (hs : listed.size = 12) {k : Nat} (hk : k < 12) (h6 : k ≠ 6) (h7 : 7 ≤ k → listed.getD 6 true = true) {v : Value} (hv : ∀ p e, (∀ j, j < 12 → listed.getD j true = true → a.tmps[dstOf j]? = some (valOf i fv L tp n cp pl p e j)) → v = valOf i fv L tp n cp pl p e k) :
    Iv E i fv L tp n cp pl ds T (listed.setIfInBounds k true) A (a.put (some (dstOf k)) v) w := by
  obtain ⟨p, e, C, h1, h2⟩ := h.val
  refine ⟨h.ds, by simp [Act.put, h.size], fun s hs' => ?_, fun j h7j hj hl => ?_, p, e, C, fun hl => h1 ?_, fun j hj hl => ?_⟩
  · show (a.tmps.setIfInBounds _ _)[s]? = _
    rw [Array.getElem?_setIfInBounds_ne (dst_old hk hs')]
    exact h.old s hs'
  · rw [getD_set (by omega)] at hl ⊢
    rw [if_neg (Ne.symm h6)]
    by_cases hjk : j = k
    · subst hjk; exact h7 h7j
    · rw [if_neg hjk] at hl; exact h.six j h7j hj hl
  · rw [getD_set (by omega), if_neg (Ne.symm h6)] at hl; exact hl
  · rw [getD_set (by omega)] at hl
    show (a.tmps.setIfInBounds _ _)[_]? = _
    by_cases hjk : j = k
    · subst hjk
      rw [Array.getElem?_setIfInBounds_self_of_lt (by rw [h.size]; exact dst_lt hj), hv p e h2]
    · rw [if_neg hjk] at hl
      rw [Array.getElem?_setIfInBounds_ne (fun x => hjk (dst_inj hk hj x).symm)]
      exact h2 j hj hl
/-- The call has answered. -/
theorem Iv.called (h : Iv E i fv L tp n cp pl ds T listed A a w) (hs : listed.size = 12) (hn : listed.getD 6 true = false) {p : Int} {e : Value} {C : Nat → Prop} (hC : ∀ b, C b → A' b) (hrc : E.Rc C i (.int .i64 p) e w') (he : e = .nilIface ∨ ∃ ti vi, e = .iface ti vi) :
    Iv E i fv L tp n cp pl ds T (listed.setIfInBounds 6 true) A' (a.put (some 19) (.tuple #[.int .i64 p, e])) w' := by
  obtain ⟨p0, e0, C0, h1, h2⟩ := h.val
  have none7 : ∀ j, 7 ≤ j → j < 12 → listed.getD j true = false := fun j h7 hj => by
    cases hl : listed.getD j true with
    | false => rfl
    | true => rw [h.six j h7 hj hl] at hn; cases hn
  refine ⟨h.ds, by simp [Act.put, h.size], fun s hs' => ?_, fun j h7j hj hl => ?_, p, e, C, fun _ => ⟨hC, hrc, he⟩, fun j hj hl => ?_⟩
  · show (a.tmps.setIfInBounds (dstOf 6) _)[s]? = _
    rw [Array.getElem?_setIfInBounds_ne (dst_old (by decide) hs')]
    exact h.old s hs'
  · rw [getD_set (by omega), if_pos rfl]
  · rw [getD_set (by omega)] at hl
    show (a.tmps.setIfInBounds (dstOf 6) _)[_]? = _
    by_cases hjk : j = 6
    · subst hjk
      rw [Array.getElem?_setIfInBounds_self_of_lt (by rw [h.size]; decide)]; rfl
    · rw [if_neg hjk] at hl
      rw [Array.getElem?_setIfInBounds_ne (fun x => hjk (dst_inj (by decide) hj x).symm), h2 j hj hl]
      have hj6 : j < 6 := by
        by_cases h7 : 7 ≤ j
        · rw [none7 j h7 hj] at hl; cases hl
        · omega
      have : ∀ j, j < 6 → valOf i fv L tp n cp pl p0 e0 j = valOf i fv L tp n cp pl p e j := fun j hj => by
        match j, hj with
        | 0, _ | 1, _ | 2, _ | 3, _ | 4, _ | 5, _ => rfl
      rw [this j hj6]
end
end Mc
end Go.Proofs.YtbkjjknlphlhlaaDoor
namespace Go.Proofs.YtbkjjknlphlhlaaDoor
namespace Mc
open Go.Conc Sim Ev Wy
set_option maxRecDepth 100000
noncomputable def RX : Goroutine := RA 0 ⟨0, 0, none⟩ ⟨0, 0, none⟩ ⟨0, 0, none⟩ ⟨0, 0, none⟩ 0 (Array.replicate 27 undef) 0
noncomputable def rgOps : Array Oper := match RX.frame.todo with
  | .code (.region _ ops _) :: _ => ops
  | _ => #[]
noncomputable def rgK : List Item := RX.frame.todo.tail
def opOf (j : Nat) (ops : Array Oper) : Option (Option Tmp × Op × Option (Nat × Bool) × List Nat) := (ops[j]?).map fun o => (o.dst, o.op, o.guard, (o.after.toList.filter (Region.binds .any)).map (·.on))
theorem rg_size : rgOps.size = 12 := by kernel_rfl
theorem rg0 : opOf 0 rgOps = some (some 13, .load 42 (.tmp 2), none, []) := by kernel_rfl
theorem rg1 : opOf 1 rgOps = some (some 14, .move (.tmp 5), none, []) := by kernel_rfl
theorem rg2 : opOf 2 rgOps = some (some 15, .load 22 (.tmp 3), none, []) := by kernel_rfl
theorem rg3 : opOf 3 rgOps = some (some 16, .move (.tmp 5), none, []) := by kernel_rfl
theorem rg4 : opOf 4 rgOps = some (some 17, .indexAddr 22 (.tmp 15) (.tmp 16), none, [2, 3]) := by kernel_rfl
theorem rg5 : opOf 5 rgOps = some (some 18, .load 24 (.tmp 17), none, [4]) := by kernel_rfl
theorem rg6 : opOf 6 rgOps = some (some 19, .call { callee := .value (.tmp 13), args := #[.tmp 14, .tmp 18], argTypes := #[3, 24] }, none, [0, 1, 5]) := by kernel_rfl
theorem rg7 : opOf 7 rgOps = some (some 12, .move (.tmp 19), none, [6]) := by kernel_rfl
theorem rg8 : opOf 8 rgOps = some (some 20, .extract (.tmp 12) 0, none, [7]) := by kernel_rfl
theorem rg9 : opOf 9 rgOps = some (some 21, .extract (.tmp 12) 1, none, [7]) := by kernel_rfl
theorem rg10 : opOf 10 rgOps = some (some 6, .assign (.tmp 20), none, [8, 6, 0, 1, 2, 3, 4, 5, 6, 7, 8]) := by kernel_rfl
theorem rg11 : opOf 11 rgOps = some (some 7, .assign (.tmp 21), none, [9, 10, 0, 1, 2, 3, 4, 5, 6, 7, 8, 9, 10]) := by kernel_rfl
theorem rg_back : (List.range 12).all (fun i => ((rgOps[i]?).map fun o => o.after.all fun e => !Region.binds .any e || decide (e.on < i)).getD false) = true := by kernel_rfl
theorem rg_mixed : Tryd.prog.follows .mixedOrders = true := by kernel_rfl
theorem opOf_is {j : Nat} {d : Option Tmp} {op : Op} {gd : Option (Nat × Bool)} {es : List Nat} {ops : Array Oper} {o : Oper} (h : opOf j ops = some (d, op, gd, es)) (ho : ops[j]? = some o) : o.dst = d ∧ o.op = op ∧ o.guard = gd ∧ ∀ x ∈ es, ∃ e ∈ o.after, Region.binds .any e = true ∧ e.on = x := by
  unfold opOf at h
  rw [ho] at h
  simp only [Option.map_some, Option.some.injEq, Prod.mk.injEq] at h
  obtain ⟨rfl, rfl, rfl, h4⟩ := h
  refine ⟨rfl, rfl, rfl, fun x hx => ?_⟩
  rw [← h4] at hx
  obtain ⟨e, he, rfl⟩ := List.mem_map.1 hx
  obtain ⟨h1, h2⟩ := List.mem_filter.1 he
  exact ⟨e, by simpa using h1, h2, rfl⟩
section
variable (Wg : Nat) (nb db tb ob : Addr) (cn : Nat)
/-- A worker there, its slots being nothing but what they must be. -/
noncomputable def RW : Goroutine := RA Wg nb db tb ob cn #[.pointer (some ⟨Wg, 0, none⟩), .pointer (some nb), .pointer (some ob), .pointer (some tb), .pointer (some db), undef, undef, undef, .chan (some cn), undef, undef, undef, undef, undef, undef, undef, undef, undef, undef, undef, undef, undef, undef, undef, undef, undef, undef] 0
theorem rw_is : (RW Wg nb db tb ob cn).frame.kind = .deferred ∧ (RW Wg nb db tb ob cn).frame.fn = 33 ∧ True := ⟨by kernel_rfl, by kernel_rfl, trivial⟩
variable (T : Array Value) (hT : WT Wg nb db tb ob cn T)
 include hT
theorem ra_is (i : Int) : RA Wg nb db tb ob cn T i = G ((RW Wg nb db tb ob cn).frame.at ⟨(RA Wg nb db tb ob cn T i).frame.tmps, (RW Wg nb db tb ob cn).frame.defers⟩ (.code (.region 4 rgOps true) :: rgK)) (RW Wg nb db tb ob cn).callers ∧ (RA Wg nb db tb ob cn T i).frame.tmps.size = 27 ∧ (RA Wg nb db tb ob cn T i).frame.tmps[5]? = some (.int .i64 i) ∧ (∀ s ∈ [0, 1, 2, 3, 4, 8], (RA Wg nb db tb ob cn T i).frame.tmps[s]? = T[s]?) := by
  obtain ⟨v0, v1, v2, v3, v4, v5, v6, v7, v8, v9, v10, v11, v12, v13, v14, v15, v16, v17, v18, v19, v20, v21, v22, v23, v24, v25, v26, rfl⟩ := array27 T hT.size
  have h0 := hT.a0; have h1 := hT.a1; have h2 := hT.a2; have h3 := hT.a3; have h4 := hT.a4; have h8 := hT.a8
  simp only [List.getElem?_toArray, List.getElem?_cons_succ, List.getElem?_cons_zero, Option.some.injEq] at h0 h1 h2 h3 h4 h8
  subst h0; subst h1; subst h2; subst h3; subst h4; subst h8
  refine ⟨?_, ?_, ?_, fun s hs => ?_⟩
  · kernel_rfl
  · kernel_rfl
  · kernel_rfl
  · simp only [List.mem_cons, List.not_mem_nil, or_false] at hs
    rcases hs with rfl | rfl | rfl | rfl | rfl | rfl <;> kernel_rfl
theorem rb_is : RB Wg nb db tb ob cn T = G ((RW Wg nb db tb ob cn).frame.at ⟨T, (RW Wg nb db tb ob cn).frame.defers⟩ rgK) (RW Wg nb db tb ob cn).callers ∧ True := by
  obtain ⟨v0, v1, v2, v3, v4, v5, v6, v7, v8, v9, v10, v11, v12, v13, v14, v15, v16, v17, v18, v19, v20, v21, v22, v23, v24, v25, v26, rfl⟩ := array27 T hT.size
  have h0 := hT.a0; have h1 := hT.a1; have h2 := hT.a2; have h3 := hT.a3; have h4 := hT.a4; have h8 := hT.a8
  simp only [List.getElem?_toArray, List.getElem?_cons_succ, List.getElem?_cons_zero, Option.some.injEq] at h0 h1 h2 h3 h4 h8
  subst h0; subst h1; subst h2; subst h3; subst h4; subst h8
  refine ⟨?_, trivial⟩
  kernel_rfl
end
end Mc
end Go.Proofs.YtbkjjknlphlhlaaDoor
namespace Go.Proofs.YtbkjjknlphlhlaaDoor
namespace Px
open Go.Conc Sim Ev Wy Mc
set_option maxRecDepth 100000

/-! ### the text of each -/
noncomputable def eBody : Code := (Tryd.f22.body).getD .skip
noncomputable def eR0 : Code := match eBody with | .seq a _ => a | _ => .skip
noncomputable def eT0 : Code := match eBody with | .seq _ b => b | _ => .skip
noncomputable def eR1 : Code := match eT0 with | .seq a _ => a | _ => .skip
noncomputable def eT1 : Code := match eT0 with | .seq _ b => b | _ => .skip
noncomputable def eR2 : Code := match eT1 with | .seq a _ => a | _ => .skip
noncomputable def eT2 : Code := match eT1 with | .seq _ b => b | _ => .skip
noncomputable def eOps : Array Oper := match eR1 with | .region _ ops _ => ops | _ => #[]
theorem eOps_size : eOps.size = 6 := by kernel_rfl
theorem eR1_is : eR1 = .region 1 eOps true := by kernel_rfl
theorem eo0 : opOf 0 eOps = some (some 11, .makeChan 72 (.const (.int .i64 0)), none, []) := by kernel_rfl
theorem eo1 : opOf 1 eOps = some (some 12, .makeChan 73 (.const (.int .i64 0)), none, []) := by kernel_rfl
theorem eo2 : opOf 2 eOps = some (some 7, .alloc 72, none, []) := by kernel_rfl
theorem eo3 : opOf 3 eOps = some (some 8, .alloc 73, none, []) := by kernel_rfl
theorem eo4 : opOf 4 eOps = some (none, .store 72 (.tmp 7) (.tmp 11), none, [2, 0, 0, 2, 3]) := by kernel_rfl
theorem eo5 : opOf 5 eOps = some (none, .store 73 (.tmp 8) (.tmp 12), none, [3, 1, 4, 0, 1, 2, 3, 4]) := by kernel_rfl
theorem e_back : (List.range 6).all (fun i => ((eOps[i]?).map fun o => o.after.all fun e => !Region.binds .any e || decide (e.on < i)).getD false) = true := by kernel_rfl

/-! ### what is so while it goes -/
def chan0 : Obj := .chan 0 #[] false 0 0 false
theorem run_chan (t : TypeId) (ht : t = 72 ∨ t = 73) (w : World) : (Instr.makeChan t (.int .i64 0)).run Tryd.prog w = .ok (.chan (some w.heap.size)) (w.alloc chan0) ∧ (Instr.makeChan t (.int .i64 0)).events Tryd.prog w #[] = #[] := by
  rcases ht with rfl | rfl <;> exact ⟨by kernel_rfl, by kernel_rfl⟩
theorem run_box (t : TypeId) (ht : t = 72 ∨ t = 73) (w : World) : (Instr.alloc t true (.tuple #[])).run Tryd.prog w = .ok (.pointer (some ⟨w.heap.size, 0, none⟩)) (w.alloc (.cells #[.chan none] t)) ∧ (Instr.alloc t true (.tuple #[])).events Tryd.prog w #[] = #[] := by
  rcases ht with rfl | rfl <;> exact ⟨by kernel_rfl, by kernel_rfl⟩

structure Iv6 (N : Nat) (A0 : Nat → Prop) (w0 : World) (T : Array Value) (L : Nat → Bool) (A M : Nat → Prop) (a : Act) (w : World) : Prop where
  size : a.tmps.size = 27
  ds : a.defers = []
  old : ∀ s, s ≠ 7 → s ≠ 8 → s ≠ 11 → s ≠ 12 → a.tmps[s]? = T[s]?
  keep : ∀ b, A0 b → A b ∧ w.heap[b]? = w0.heap[b]?
  low : N ≤ w.heap.size
  tape : w.tape = w0.tape
  os : w.os = w0.os
  output : w.output = w0.output
  ex : ∃ f : Nat → Nat, (∀ i, i < 4 → L i = true → A (f i) ∧ M (f i) ∧ N ≤ f i ∧ f i < w.heap.size) ∧ (∀ i j, i < 4 → j < 4 → i ≠ j → L i = true → L j = true → f i ≠ f j) ∧
    (L 0 = true → a.tmps[11]? = some (.chan (some (f 0))) ∧ w.heap[f 0]? = some chan0) ∧ (L 1 = true → a.tmps[12]? = some (.chan (some (f 1))) ∧ w.heap[f 1]? = some chan0) ∧
    (L 2 = true → a.tmps[7]? = some (.pointer (some ⟨f 2, 0, none⟩)) ∧ ∃ x, w.heap[f 2]? = some (.cells #[x] 72) ∧ (L 4 = true → x = .chan (some (f 0)))) ∧
    (L 3 = true → a.tmps[8]? = some (.pointer (some ⟨f 3, 0, none⟩)) ∧ ∃ x, w.heap[f 3]? = some (.cells #[x] 73) ∧ (L 5 = true → x = .chan (some (f 1))))
section
variable {N : Nat} {A0 : Nat → Prop} {w0 : World} {T : Array Value} {L : Nat → Bool} {A M : Nat → Prop} {a : Act} {w w1 : World}
theorem Iv6.rely (h : Iv6 N A0 w0 T L A M a w) (r : Rely A w w1) : Iv6 N A0 w0 T L A M a w1 := by
  obtain ⟨f, h1, h2, h3, h4, h5, h6⟩ := h.ex
  exact ⟨h.size, h.ds, h.old, fun b hb => ⟨(h.keep b hb).1, (r.keep b (h.keep b hb).1).trans (h.keep b hb).2⟩, Nat.le_trans h.low r.size, r.tape.trans h.tape, r.os.trans h.os, r.output.trans h.output,
    f, fun i hi hl => ⟨(h1 i hi hl).1, (h1 i hi hl).2.1, (h1 i hi hl).2.2.1, Nat.lt_of_lt_of_le (h1 i hi hl).2.2.2 r.size⟩, h2,
    fun l => ⟨(h3 l).1, (r.keep _ (h1 0 (by decide) l).1).trans (h3 l).2⟩, fun l => ⟨(h4 l).1, (r.keep _ (h1 1 (by decide) l).1).trans (h4 l).2⟩,
    fun l => ⟨(h5 l).1, (h5 l).2.choose, (r.keep _ (h1 2 (by decide) l).1).trans (h5 l).2.choose_spec.1, (h5 l).2.choose_spec.2⟩, fun l => ⟨(h6 l).1, (h6 l).2.choose, (r.keep _ (h1 3 (by decide) l).1).trans (h6 l).2.choose_spec.1, (h6 l).2.choose_spec.2⟩⟩
/-- Number j has been made (j: one of the first four). -/
theorem Iv6.made (h : Iv6 N A0 w0 T L A M a w) (hA0 : ∀ b, A0 b → b < w.heap.size) {j s : Nat} {v : Value} {o : Obj} (hj : j < 4) (hl : L j = false) (h45 : L 4 = true → L 0 = true ∧ L 2 = true) (h55 : L 5 = true → L 1 = true ∧ L 3 = true)
    (hs : s = [11, 12, 7, 8].getD j 0) (hv : v = if j < 2 then .chan (some w.heap.size) else .pointer (some ⟨w.heap.size, 0, none⟩)) (ho : o = if j < 2 then chan0 else .cells #[.chan none] (70 + j)) :
    Iv6 N A0 w0 T (fun i => L i || i == j) (fresh w (w.alloc o) A) (fresh w (w.alloc o) M) (a.put (some s) v) (w.alloc o) := by
  obtain ⟨f, h1, h2, h3, h4, h5, h6⟩ := h.ex
  have hsz := h.size
  have at_ : ∀ b, b < w.heap.size → (w.alloc o).heap[b]? = w.heap[b]? := fun b hb => heap_push (w := w) (o := o) hb
  have new_ : (w.alloc o).heap[w.heap.size]? = some o := by show (w.heap.push o)[w.heap.size]? = some o; simp
  have size' : (w.alloc o).heap.size = w.heap.size + 1 := by show (w.heap.push o).size = _; simp
  have put_ne : ∀ x, x ≠ s → (a.put (some s) v).tmps[x]? = a.tmps[x]? := fun x hx => by simp [Act.put, Ne.symm hx]
  have put_eq : s < 27 → (a.put (some s) v).tmps[s]? = some v := fun hs => by simp [Act.put, hsz, hs]
  let f' : Nat → Nat := fun i => if i = j then w.heap.size else f i
  have fj : f' j = w.heap.size := by simp [f']
  have fi : ∀ i, i ≠ j → f' i = f i := fun i hi => by simp [f', hi]
  have Li : ∀ i, i ≠ j → (L i || i == j) = true → L i = true := fun i hi h => by simpa [hi] using h
  have old : ∀ i, i < 4 → i ≠ j → (L i || i == j) = true → f i < w.heap.size := fun i hi hn hl => (h1 i hi (Li i hn hl)).2.2.2
  refine ⟨by simp [Act.put, hsz], h.ds, fun x a1 a2 a3 a4 => ?_, fun b hb => ⟨.inl (h.keep b hb).1, (at_ b (hA0 b hb)).trans (h.keep b hb).2⟩, by rw [size']; exact Nat.le_succ_of_le h.low, h.tape, h.os, h.output, f', fun i hi hl => ?_, fun i i' hi hi' hne hl hl' => ?_, ?_, ?_, ?_, ?_⟩
  · rw [put_ne x (by subst hs; have : j = 0 ∨ j = 1 ∨ j = 2 ∨ j = 3 := by omega
                     rcases this with rfl | rfl | rfl | rfl <;> simpa), h.old x a1 a2 a3 a4]
  · by_cases hij : i = j
    · subst hij
      rw [fj, size']
      exact ⟨.inr ⟨Nat.le_refl _, by rw [size']; omega⟩, .inr ⟨Nat.le_refl _, by rw [size']; omega⟩, h.low, by omega⟩
    · have := h1 i hi (Li i hij hl)
      rw [fi i hij, size']
      exact ⟨.inl this.1, .inl this.2.1, this.2.2.1, by omega⟩
  · by_cases hij : i = j
    · subst hij
      rw [fj, fi i' (Ne.symm hne)]
      have := old i' hi' (Ne.symm hne) hl'
      omega
    · by_cases hij' : i' = j
      · subst hij'
        rw [fj, fi i hij]
        have := old i hi hij hl
        omega
      · rw [fi i hij, fi i' hij']
        exact h2 i i' hi hi' hne (Li i hij hl) (Li i' hij' hl')
  · intro l
    by_cases hij : 0 = j
    · subst hij
      rw [fj]
      subst hs; subst hv; subst ho
      exact ⟨put_eq (by decide), new_⟩
    · have l0 := Li 0 hij l
      rw [fi 0 hij, put_ne 11 (by subst hs; have : j = 1 ∨ j = 2 ∨ j = 3 := by omega
                                  rcases this with rfl | rfl | rfl <;> decide), at_ _ (h1 0 (by decide) l0).2.2.2]
      exact h3 l0
  · intro l
    by_cases hij : 1 = j
    · subst hij
      rw [fj]
      subst hs; subst hv; subst ho
      exact ⟨put_eq (by decide), new_⟩
    · have l0 := Li 1 hij l
      rw [fi 1 hij, put_ne 12 (by subst hs; have : j = 0 ∨ j = 2 ∨ j = 3 := by omega
                                  rcases this with rfl | rfl | rfl <;> decide), at_ _ (h1 1 (by decide) l0).2.2.2]
      exact h4 l0
  · intro l
    by_cases hij : 2 = j
    · subst hij
      rw [fj]
      subst hs; subst hv; subst ho
      refine ⟨put_eq (by decide), _, new_, fun l4 => ?_⟩
      have := (h45 (Li 4 (by decide) l4)).2
      rw [hl] at this; cases this
    · have l0 := Li 2 hij l
      rw [fi 2 hij, put_ne 7 (by subst hs; have : j = 0 ∨ j = 1 ∨ j = 3 := by omega
                                 rcases this with rfl | rfl | rfl <;> decide), at_ _ (h1 2 (by decide) l0).2.2.2]
      obtain ⟨e1, x, e2, e3⟩ := h5 l0
      refine ⟨e1, x, e2, fun l4 => ?_⟩
      have k4 := Li 4 (by omega) l4
      have h0 : 0 ≠ j := fun e => by
        have := (h45 k4).1
        rw [e, hl] at this; cases this
      rw [fi 0 h0]; exact e3 k4
  · intro l
    by_cases hij : 3 = j
    · subst hij
      rw [fj]
      subst hs; subst hv; subst ho
      refine ⟨put_eq (by decide), _, new_, fun l4 => ?_⟩
      have := (h55 (Li 5 (by decide) l4)).2
      rw [hl] at this; cases this
    · have l0 := Li 3 hij l
      rw [fi 3 hij, put_ne 8 (by subst hs; have : j = 0 ∨ j = 1 ∨ j = 2 := by omega
                                 rcases this with rfl | rfl | rfl <;> decide), at_ _ (h1 3 (by decide) l0).2.2.2]
      obtain ⟨e1, x, e2, e3⟩ := h6 l0
      refine ⟨e1, x, e2, fun l4 => ?_⟩
      have k4 := Li 5 (by omega) l4
      have h0 : 1 ≠ j := fun e => by
        have := (h55 k4).1
        rw [e, hl] at this; cases this
      rw [fi 1 h0]; exact e3 k4
end
theorem run_put (t : TypeId) (ht : t = 72 ∨ t = 73) {p : Nat} {x : Value} {r : Option Nat} {w : World} (h : w.heap[p]? = some (.cells #[x] t)) : (Instr.storeAt t (.pointer (some ⟨p, 0, none⟩)) (.chan r)).run Tryd.prog w = .ok () (w.setCell ⟨p, 0, none⟩ (.chan r)) ∧
    (Instr.storeAt t (.pointer (some ⟨p, 0, none⟩)) (.chan r)).events Tryd.prog w #[] = #[⟨.cell ⟨p, 0, none⟩, true, false⟩] := by
  have hs : ∀ w : World, (sizeOf t).run Tryd.prog w = .ok 1 w ∧ (sizeOf t).events Tryd.prog w #[] = #[] := fun w => by rcases ht with rfl | rfl <;> exact ⟨by kernel_rfl, by kernel_rfl⟩
  have hc : w.cell? ⟨p, 0, none⟩ = some x := by simp [World.cell?, h]
  have hf : w.frozen? ⟨p, 0, none⟩ = false := by simp [World.frozen?, h]
  have hv : Value.cells (.chan r) = #[.chan r] := rfl
  constructor
  · simp [Instr.storeAt, Instr.sureAddr, storeVar, Sem.run_bind, (hs _).1, hv, storeCells, Addr.add, Result.andThen]
    rw [run_store Tryd.prog w _ _ _ (by rfl)]
    simp [hc, hf]
  · simp [Instr.storeAt, Instr.sureAddr, storeVar, Sem.events_bind, (hs _).1, (hs _).2, hv, storeCells, Addr.add, Result.evThen_ok]
    rw [events_store Tryd.prog w _ _ _ _ (by rfl)]
    simp [hc, hf]
end Px
end Go.Proofs.YtbkjjknlphlhlaaDoor
