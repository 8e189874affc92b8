/- Put of an intake by its contract. -/
import Derived.Test.YtfifmigmdiegdaaDoorIkClear
import Derived.Test.YtfifmigmdiegdaaDoorLast
namespace Go.Proofs.YtfifmigmdiegdaaDoor
open Go.RowKit
set_option maxRecDepth 100000
theorem step_append_run {P : Program} {ops : Array Oper} {o : Oper} {a : Act} {w w' : World} {K : Act → World → Prop} {Q : Exit → Act → World → Prop} {E : Prop}
    (hg : o.guard = none) (s x : Operand) (t : TypeId) (hop : o.op = Op.call { callee := Callee.builtin Builtin.append, args := #[s, x], argTypes := #[t, t] }) (vs vx v' : Value) (hs : a.eval s = vs) (hx : a.eval x = vx)
    (hrun : (Builtin.append_ #[t, t] o.type #[vs, vx]).run P w = .ok v' w') (hK : K (a.put o.dst v') w') :
    if Region.wanted o (yielded ops a.tmps) = true then Oper.wp P o a w K Q else E := by
  have hw : Region.wanted o (yielded ops a.tmps) = true := by simp [Region.wanted, hg]
  rw [if_pos hw]
  unfold Oper.wp
  simp [execOp, hop, resolve, invoke, builtin, hs, hx, hrun, Result.andThen]
  exact hK
section
variable {w w' : World} {base p t : Nat} {V : Nat → Value} {L : Nat → List Ask} {T : Nat → Value}
theorem class_all (R : World → Prop) : ∃ (X : Type) (val : X → World), (∀ x, R (val x)) ∧ ∀ W, R W → ∃ x, val x = W :=
  ⟨{ W : World // R W }, fun x => x.1, fun x => x.2, fun W h => ⟨⟨W, h⟩, rfl⟩⟩
theorem upM_append {P : Program} {o : Oper} {a : Act} {w w' : World} {K : Value → World → Prop} (s x : Operand) (t : TypeId) (hop : o.op = Op.call { callee := Callee.builtin Builtin.append, args := #[s, x], argTypes := #[t, t] }) (vs vx v' : Value) (hs : a.eval s = vs) (hx : a.eval x = vx)
    (hrun : (Builtin.append_ #[t, t] o.type #[vs, vx]).run P w = .ok v' w') (hK : K v' w') : upM P K ((execOp a.eval o).run P w) := by
  simp [execOp, hop, resolve, invoke, builtin, hs, hx, hrun, Result.andThen, upM]
  exact hK
theorem box8 {w : World} {b : Nat} {k c sq it sd pr q id : Int} {ty : TypeId} (h : w.heap[b]? = some (.cells #[.int .u8 k, .int .i64 c, .int .i64 sq, .int .i64 it, .int .i64 sd, .int .i64 pr, .int .i64 q, .int .i64 id] ty (0, 0))) :
    w.cell? ⟨b, 0, none⟩ = some (.int .u8 k) ∧ w.cell? ⟨b, 1, none⟩ = some (.int .i64 c) ∧ w.cell? ⟨b, 2, none⟩ = some (.int .i64 sq) ∧ w.cell? ⟨b, 3, none⟩ = some (.int .i64 it) ∧ w.cell? ⟨b, 4, none⟩ = some (.int .i64 sd) ∧ w.cell? ⟨b, 5, none⟩ = some (.int .i64 pr) ∧ w.cell? ⟨b, 6, none⟩ = some (.int .i64 q) ∧ w.cell? ⟨b, 7, none⟩ = some (.int .i64 id) := by
  refine ⟨?_, ?_, ?_, ?_, ?_, ?_, ?_, ?_⟩ <;> (rw [cell_of_row _ _ _ _ _ _ h]; rfl)
theorem drew_below (w : World) : Below w.heap.size w w.drew := ⟨rfl, rfl, rfl, Nat.le_refl _, fun _ _ => rfl⟩
set_option maxHeartbeats 1000000 in
theorem put_any (a : Ask) (w : World) (he : Hid (IEr w T)) (hi : Hid (Itk w base p V t L)) :
    Calls Tryd.prog 8 #[.pointer (some ⟨p, 0, none⟩), askV a] w fun e w' => e = .returned (errC T (Ik.putC L a)) ∧ ∃ V', Itk w' base p V' t (Ik.putL L a) ∧ QStep w w' p V V' := by
  obtain ⟨ak, ac, asq, ait, asd, apr, aq, aid⟩ := a
  have HB : Hid (Below w.heap.size w (w.alloc (.cells #[.int .u8 ak, .int .i64 ac, .int .i64 asq, .int .i64 ait, .int .i64 asd, .int .i64 apr, .int .i64 aq, .int .i64 aid] 30))) := (Below.refl _ _).alloc (Nat.le_refl _) _
  have h2 := he.out.size
  have k0 := he.out.kd
  have k1 := he.out.bd
  have k2 := he.out.fu
  have e0 := (he.out.later HB.out).kd
  have e1 := (he.out.later HB.out).bd
  have e2 := (he.out.later HB.out).fu
  have HI1 := hide (hi.out.later HB.out)
  have HSK := hide (QStep.of_below (V := V) HB.out p)
  show Calls Tryd.prog 8 #[.pointer (some ⟨p, 0, none⟩), .agg #[.int .u8 ak, .int .i64 ac, .int .i64 asq, .int .i64 ait, .int .i64 asd, .int .i64 apr, .int .i64 aq, .int .i64 aid]] w _
  cases hk : Ik.isK ⟨ak, ac, asq, ait, asd, apr, aq, aid⟩ with
  | false =>
    have HA : Hid (Ik.putC L ⟨ak, ac, asq, ait, asd, apr, aq, aid⟩ = 4 ∧ Ik.putL L ⟨ak, ac, asq, ait, asd, apr, aq, aid⟩ = L) := by
      have e : Ik.putC L ⟨ak, ac, asq, ait, asd, apr, aq, aid⟩ = 4 := by unfold Ik.putC; rw [hk]; rfl
      exact ⟨e, by unfold Ik.putL; rw [e]; rfl⟩
    have hk1 : (ak != 111) = true := by simp [Ik.isK] at hk; simp [hk.1]
    have hk2 : (ak != 99) = true := by simp [Ik.isK] at hk; simp [hk.2]
    clear hk
    go_enter Tryd.func8, Tryd.ntmps8
    go_wp2
    go_ret
    exact ⟨by rw [HA.out.1]; rfl, V, by rw [HA.out.2]; exact HI1.out, HSK.out⟩
  | true =>
    have HK := hide hk
    have hk' : ak = 111 ∨ ak = 99 := by simpa [Ik.isK] using hk
    clear hk
    have HCL := hide (isClient_any ac (w.alloc (.cells #[.int .u8 ak, .int .i64 ac, .int .i64 asq, .int .i64 ait, .int .i64 asd, .int .i64 apr, .int .i64 aq, .int .i64 aid] 30)))
    have HWT := hide (wait_any ac _ HI1)
    cases hc : Ik.isC ac with
    | false =>
      have HA : Hid (Ik.putC L ⟨ak, ac, asq, ait, asd, apr, aq, aid⟩ = 2 ∧ Ik.putL L ⟨ak, ac, asq, ait, asd, apr, aq, aid⟩ = L) := by
        have e : Ik.putC L ⟨ak, ac, asq, ait, asd, apr, aq, aid⟩ = 2 := by unfold Ik.putC; rw [HK.out, if_pos rfl]; simp [hc]
        exact ⟨e, by unfold Ik.putL; rw [e]; rfl⟩
      rw [hc] at HCL
      clear hc
      rcases hk' with rfl | rfl
      all_goals
        go_enter Tryd.func8, Tryd.ntmps8
        go_wp2_with fail
        refine HCL.out.mono ?_
        rintro e w2 ⟨rfl, rfl⟩
        simp only []
        go_wp2
        go_ret
        exact ⟨by rw [HA.out.1]; rfl, V, by rw [HA.out.2]; exact HI1.out, HSK.out⟩
    | true =>
      rw [hc] at HCL
      obtain ⟨c, hc6, rfl⟩ := Ik.isC_lt hc
      have HWN : Hid (Ik.waitN L (c : Int) = (L c).length) := by show _ = _; unfold Ik.waitN; rw [hc]; rfl
      rw [HWN.out] at HWT
      by_cases hf : 6 ≤ (L c).length
      · have HA : Hid (Ik.putC L ⟨ak, c, asq, ait, asd, apr, aq, aid⟩ = 8 ∧ Ik.putL L ⟨ak, c, asq, ait, asd, apr, aq, aid⟩ = L) := by
          have e : Ik.putC L ⟨ak, c, asq, ait, asd, apr, aq, aid⟩ = 8 := by unfold Ik.putC; rw [HK.out, if_pos rfl]; simp [hc, hf]
          exact ⟨e, by unfold Ik.putL; rw [e]; rfl⟩
        clear hc
        generalize (L c).length = m at *
        have hf' : (6 : Int) ≤ m := by omega
        rcases hk' with rfl | rfl
        all_goals
          go_enter Tryd.func8, Tryd.ntmps8
          go_wp2_with fail
          refine HCL.out.mono ?_
          rintro e w2 ⟨rfl, rfl⟩
          simp only []
          go_wp2_with fail
          refine HWT.out.mono ?_
          rintro e w2 ⟨rfl, rfl⟩
          simp only []
          go_wp2
          go_ret
          exact ⟨by rw [HA.out.1]; rfl, V, by rw [HA.out.2]; exact HI1.out, HSK.out⟩
      · have HA : Hid (Ik.putC L ⟨ak, c, asq, ait, asd, apr, aq, aid⟩ = 0 ∧ Ik.putL L ⟨ak, c, asq, ait, asd, apr, aq, aid⟩ = Ik.upd L c (L c ++ [⟨ak, c, asq, ait, asd, apr, aq, aid⟩])) := by
          have e : Ik.putC L ⟨ak, c, asq, ait, asd, apr, aq, aid⟩ = 0 := by unfold Ik.putC; rw [HK.out, if_pos rfl]; simp [hc, hf]
          exact ⟨e, by unfold Ik.putL; rw [if_pos e]; rfl⟩
        clear hc
        -- the world behind the making of the box, the draw and the new row of one
        obtain ⟨w1, hw1⟩ : ∃ w1, w1 = w.alloc (.cells #[.int .u8 ak, .int .i64 c, .int .i64 asq, .int .i64 ait, .int .i64 asd, .int .i64 apr, .int .i64 aq, .int .i64 aid] 30) := ⟨_, rfl⟩
        have hbA : Below w.heap.size w ((w.alloc (.cells #[.int .u8 ak, .int .i64 c, .int .i64 asq, .int .i64 ait, .int .i64 asd, .int .i64 apr, .int .i64 aq, .int .i64 aid] 30)).drew.alloc (.cells #[.int .u8 ak, .int .i64 c, .int .i64 asq, .int .i64 ait, .int .i64 asd, .int .i64 apr, .int .i64 aq, .int .i64 aid] 30)) :=
          (((Below.refl _ _).alloc (Nat.le_refl _) _).trans ((drew_below _).mono (by simp))).alloc (by simp [World.drew]) _
        have hIA := hi.out.later hbA
        obtain ⟨i0, z0, hi0, hz0, hz1, hz2, hz3⟩ := info30
        obtain ⟨v4, w4, hap, hrow, hg, _, hloc⟩ := run_append_own_at (P := Tryd.prog) ((w.alloc (.cells #[.int .u8 ak, .int .i64 c, .int .i64 asq, .int .i64 ait, .int .i64 asd, .int .i64 apr, .int .i64 aq, .int .i64 aid] 30)).drew.alloc (.cells #[.int .u8 ak, .int .i64 c, .int .i64 asq, .int .i64 ait, .int .i64 asd, .int .i64 apr, .int .i64 aq, .int .i64 aid] 30)) base 33 33 30 i0 z0 8 64 Tryd.underlying33 hi0 hz0 hz1 hz2 hz3 (by decide) _ _ _ (hIA.row c hc6) ⟨(w.alloc (.cells #[.int .u8 ak, .int .i64 c, .int .i64 asq, .int .i64 ait, .int .i64 asd, .int .i64 apr, .int .i64 aq, .int .i64 aid] 30)).heap.size, 0, none⟩ 1 1 (askC ⟨ak, c, asq, ait, asd, apr, aq, aid⟩) rfl
          (fun j u hj => cell_new8 (World.drew _) ⟨ak, c, asq, ait, asd, apr, aq, aid⟩ 30 _ rfl j u hj)
          (fun u hu => aflat_one [⟨ak, c, asq, ait, asd, apr, aq, aid⟩] u (by simpa [aflat] using hu)) (by unfold maxLen; omega) (by omega) (by have h1 := hIA.lo; have h2 := hIA.lt; omega)
        obtain ⟨q1, q2⟩ := hIA.openAt hc6 hg
        have x0 : (World.drew (w.alloc (.cells #[.int .u8 ak, .int .i64 c, .int .i64 asq, .int .i64 ait, .int .i64 asd, .int .i64 apr, .int .i64 aq, .int .i64 aid] 30))).heap[w.heap.size]? = some (.cells #[.int .u8 ak, .int .i64 c, .int .i64 asq, .int .i64 ait, .int .i64 asd, .int .i64 apr, .int .i64 aq, .int .i64 aid] 30 (0, 0)) := heap_alloc_new w _
        have x1 := (heap_alloc_old (World.drew (w.alloc (.cells #[.int .u8 ak, .int .i64 c, .int .i64 asq, .int .i64 ait, .int .i64 asd, .int .i64 apr, .int .i64 aq, .int .i64 aid] 30))) (.cells #[.int .u8 ak, .int .i64 c, .int .i64 asq, .int .i64 ait, .int .i64 asd, .int .i64 apr, .int .i64 aq, .int .i64 aid] 30) (lt_of_block x0)).trans x0
        have x3 := (hg.block w.heap.size (lt_of_block x1) (fun e => by have := ((hi.out.row c hc6).lt w.heap.size e.symm).2; omega)).trans x1
        have X0 := hide x0; have X1 := hide x1; have X3 := hide x3
        have HQA := hide (hIA.at hc6)
        clear x0 x1 x3
        obtain ⟨a0, c0, hV⟩ := hIA.form hc6
        obtain ⟨a4, c4, hv4⟩ := row_form hrow
        have hset := hIA.set hc6 (l' := L c ++ [⟨ak, c, asq, ait, asd, apr, aq, aid⟩]) hg (v' := v4) (by rw [List.length_append, aflat_append]; simpa [aflat] using hrow) (by rw [List.length_append]; simp; omega) (fun k hk => by
          rcases hloc with h | h
          · rw [h] at hk; exact .inl hk
          · rw [h] at hk; exact .inr (Nat.le_of_eq (Option.some.inj hk)))
        have hat := HI1.out.at hc6
        rw [hV] at hap hat q1 HQA
        rw [hv4] at hap hset
        rw [show (w.alloc (.cells #[.int .u8 ak, .int .i64 c, .int .i64 asq, .int .i64 ait, .int .i64 asd, .int .i64 apr, .int .i64 aq, .int .i64 aid] 30)).heap.size = w.heap.size + 1 by simp] at hap
        have HSET := hide hset
        have HAP := hide hap
        have HBA := hide hbA
        have hpl : p < w.heap.size := hi.out.lt
        clear hset hap hrow hg hloc hi0 hz0 hz1 hz2 hz3 hIA hbA hV hv4 hw1 w1
        generalize (L c).length = m at *
        have hf' : ¬ (6 : Int) ≤ m := by omega
        have hci : (c : Int) < 6 := by omega
        rcases hk' with rfl | rfl
        · go_enter Tryd.func8, Tryd.ntmps8
          go_wp2_with fail
          refine HCL.out.mono ?_
          rintro e w2 ⟨rfl, rfl⟩
          simp only []
          go_wp2_with fail
          refine HWT.out.mono ?_
          rintro e w2 ⟨rfl, rfl⟩
          simp only []
          go_wp2
          obtain ⟨XT, val, hcl, hmk⟩ := class_all (fun W' => W'.heap[w.heap.size]? = some (.cells #[.int .u8 111, .int .i64 c, .int .i64 asq, .int .i64 ait, .int .i64 asd, .int .i64 apr, .int .i64 aq, .int .i64 aid] 30 (0, 0)) ∧ W'.cell? ⟨p, c, none⟩ = some (.slice a0 m c0))
          obtain ⟨x0, hx0⟩ := hmk (World.drew (w.alloc (.cells #[.int .u8 111, .int .i64 c, .int .i64 asq, .int .i64 ait, .int .i64 asd, .int .i64 apr, .int .i64 aq, .int .i64 aid] 30))) ⟨X0.out, hat⟩
          have hnx : Nonempty XT := ⟨x0⟩
          have s0 : ∀ x, (val x).cell? ⟨w.heap.size, 0, none⟩ = some (.int .u8 111) := fun x => (box8 (hcl x).1).1
          have s1 : ∀ x, (val x).cell? ⟨w.heap.size, 1, none⟩ = some (.int .i64 c) := fun x => (box8 (hcl x).1).2.1
          have s2 : ∀ x, (val x).cell? ⟨w.heap.size, 2, none⟩ = some (.int .i64 asq) := fun x => (box8 (hcl x).1).2.2.1
          have s3 : ∀ x, (val x).cell? ⟨w.heap.size, 3, none⟩ = some (.int .i64 ait) := fun x => (box8 (hcl x).1).2.2.2.1
          have s4 : ∀ x, (val x).cell? ⟨w.heap.size, 4, none⟩ = some (.int .i64 asd) := fun x => (box8 (hcl x).1).2.2.2.2.1
          have s5 : ∀ x, (val x).cell? ⟨w.heap.size, 5, none⟩ = some (.int .i64 apr) := fun x => (box8 (hcl x).1).2.2.2.2.2.1
          have s6 : ∀ x, (val x).cell? ⟨w.heap.size, 6, none⟩ = some (.int .i64 aq) := fun x => (box8 (hcl x).1).2.2.2.2.2.2.1
          have s7 : ∀ x, (val x).cell? ⟨w.heap.size, 7, none⟩ = some (.int .i64 aid) := fun x => (box8 (hcl x).1).2.2.2.2.2.2.2
          have s8 : ∀ x, (val x).cell? ⟨p, c, none⟩ = some (.slice a0 m c0) := fun x => (hcl x).2
          have M1 := hide (hmk _ ⟨X1.out, HQA.out⟩)
          have M3 := hide (hmk _ ⟨X3.out, q1⟩)
          clear hmk hcl
          refine region_many_last (val := val) [11, 12] 16 20 [0, 1, 2, 3, 4, 5, 6, 7, 8, 9, 10, 13, 14, 11, 12, 15, 16] (by kernel_rfl) (by kernel_rfl) x0 hx0 ?_
          rw [hx0]
          clear hx0
          refine walkL_read rfl rfl (fun K hK => ?_)
          refine ⟨by rfl, ?_⟩
          unfold isRd
          go_simp
          refine hK _ ?_
          clear hK K
          refine walkL_read rfl rfl (fun K hK => ?_)
          refine ⟨by rfl, ?_⟩
          unfold isRd
          go_simp
          refine hK _ ?_
          clear hK K
          refine walkL_read rfl rfl (fun K hK => ?_)
          refine ⟨by rfl, ?_⟩
          unfold isRd
          go_simp
          refine hK _ ?_
          clear hK K
          refine walkL_read rfl rfl (fun K hK => ?_)
          refine ⟨by rfl, ?_⟩
          unfold isRd
          go_simp
          refine hK _ ?_
          clear hK K
          refine walkL_read rfl rfl (fun K hK => ?_)
          refine ⟨by rfl, ?_⟩
          unfold isRd
          go_simp
          refine hK _ ?_
          clear hK K
          refine walkL_read rfl rfl (fun K hK => ?_)
          refine ⟨by rfl, ?_⟩
          unfold isRd
          go_simp
          refine hK _ ?_
          clear hK K
          refine walkL_read rfl rfl (fun K hK => ?_)
          refine ⟨by rfl, ?_⟩
          unfold isRd
          go_simp
          refine hK _ ?_
          clear hK K
          refine walkL_read rfl rfl (fun K hK => ?_)
          refine ⟨by rfl, ?_⟩
          unfold isRd
          go_simp
          refine hK _ ?_
          clear hK K
          refine walkL_read rfl rfl (fun K hK => ?_)
          refine ⟨by rfl, ?_⟩
          unfold isRd
          go_simp
          refine hK _ ?_
          clear hK K
          refine walkL_read rfl rfl (fun K hK => ?_)
          refine ⟨by rfl, ?_⟩
          unfold isRd
          go_simp
          refine hK _ ?_
          clear hK K
          refine walkL_read rfl rfl (fun K hK => ?_)
          refine ⟨by rfl, ?_⟩
          unfold isRd
          go_simp
          refine hK _ ?_
          clear hK K
          refine walkL_read rfl rfl (fun K hK => ?_)
          refine ⟨by rfl, ?_⟩
          unfold isRd
          go_simp
          refine hK _ ?_
          clear hK K
          refine walkL_read rfl rfl (fun K hK => ?_)
          refine ⟨by rfl, ?_⟩
          unfold isRd
          go_simp
          refine hK _ ?_
          clear hK K
          refine walkL_call rfl rfl (fun K hK => ?_)
          refine ⟨by rfl, ?_⟩
          unfold upM
          go_simp
          refine ⟨M1.out, hK _ _ ?_⟩
          clear hK K
          refine walkL_call rfl rfl (fun K hK => ?_)
          refine ⟨by rfl, ?_⟩
          refine upM_append _ _ 33 rfl _ _ _ rfl rfl HAP.out ?_
          refine ⟨M3.out, hK _ _ ?_⟩
          clear hK K
          refine walkL_read rfl rfl (fun K hK => ?_)
          refine ⟨by rfl, ?_⟩
          unfold isRd
          go_simp
          refine hK _ ?_
          clear hK K
          refine walkL_last rfl (fun K hK => ?_)
          refine ⟨by rfl, ?_⟩
          unfold upM
          go_simp
          refine hK _ _ ?_
          clear hK K
          all_goals go_wp2
          all_goals go_ret
          all_goals exact ⟨by rw [HA.out.1]; rfl, _, by rw [HA.out.2]; exact HSET.out.1, (QStep.of_below HBA.out p _).trans HSET.out.2⟩
        · go_enter Tryd.func8, Tryd.ntmps8
          go_wp2_with fail
          refine HCL.out.mono ?_
          rintro e w2 ⟨rfl, rfl⟩
          simp only []
          go_wp2_with fail
          refine HWT.out.mono ?_
          rintro e w2 ⟨rfl, rfl⟩
          simp only []
          go_wp2
          obtain ⟨XT, val, hcl, hmk⟩ := class_all (fun W' => W'.heap[w.heap.size]? = some (.cells #[.int .u8 99, .int .i64 c, .int .i64 asq, .int .i64 ait, .int .i64 asd, .int .i64 apr, .int .i64 aq, .int .i64 aid] 30 (0, 0)) ∧ W'.cell? ⟨p, c, none⟩ = some (.slice a0 m c0))
          obtain ⟨x0, hx0⟩ := hmk (World.drew (w.alloc (.cells #[.int .u8 99, .int .i64 c, .int .i64 asq, .int .i64 ait, .int .i64 asd, .int .i64 apr, .int .i64 aq, .int .i64 aid] 30))) ⟨X0.out, hat⟩
          have hnx : Nonempty XT := ⟨x0⟩
          have s0 : ∀ x, (val x).cell? ⟨w.heap.size, 0, none⟩ = some (.int .u8 99) := fun x => (box8 (hcl x).1).1
          have s1 : ∀ x, (val x).cell? ⟨w.heap.size, 1, none⟩ = some (.int .i64 c) := fun x => (box8 (hcl x).1).2.1
          have s2 : ∀ x, (val x).cell? ⟨w.heap.size, 2, none⟩ = some (.int .i64 asq) := fun x => (box8 (hcl x).1).2.2.1
          have s3 : ∀ x, (val x).cell? ⟨w.heap.size, 3, none⟩ = some (.int .i64 ait) := fun x => (box8 (hcl x).1).2.2.2.1
          have s4 : ∀ x, (val x).cell? ⟨w.heap.size, 4, none⟩ = some (.int .i64 asd) := fun x => (box8 (hcl x).1).2.2.2.2.1
          have s5 : ∀ x, (val x).cell? ⟨w.heap.size, 5, none⟩ = some (.int .i64 apr) := fun x => (box8 (hcl x).1).2.2.2.2.2.1
          have s6 : ∀ x, (val x).cell? ⟨w.heap.size, 6, none⟩ = some (.int .i64 aq) := fun x => (box8 (hcl x).1).2.2.2.2.2.2.1
          have s7 : ∀ x, (val x).cell? ⟨w.heap.size, 7, none⟩ = some (.int .i64 aid) := fun x => (box8 (hcl x).1).2.2.2.2.2.2.2
          have s8 : ∀ x, (val x).cell? ⟨p, c, none⟩ = some (.slice a0 m c0) := fun x => (hcl x).2
          have M1 := hide (hmk _ ⟨X1.out, HQA.out⟩)
          have M3 := hide (hmk _ ⟨X3.out, q1⟩)
          clear hmk hcl
          refine region_many_last (val := val) [11, 12] 16 20 [0, 1, 2, 3, 4, 5, 6, 7, 8, 9, 10, 13, 14, 11, 12, 15, 16] (by kernel_rfl) (by kernel_rfl) x0 hx0 ?_
          rw [hx0]
          clear hx0
          refine walkL_read rfl rfl (fun K hK => ?_)
          refine ⟨by rfl, ?_⟩
          unfold isRd
          go_simp
          refine hK _ ?_
          clear hK K
          refine walkL_read rfl rfl (fun K hK => ?_)
          refine ⟨by rfl, ?_⟩
          unfold isRd
          go_simp
          refine hK _ ?_
          clear hK K
          refine walkL_read rfl rfl (fun K hK => ?_)
          refine ⟨by rfl, ?_⟩
          unfold isRd
          go_simp
          refine hK _ ?_
          clear hK K
          refine walkL_read rfl rfl (fun K hK => ?_)
          refine ⟨by rfl, ?_⟩
          unfold isRd
          go_simp
          refine hK _ ?_
          clear hK K
          refine walkL_read rfl rfl (fun K hK => ?_)
          refine ⟨by rfl, ?_⟩
          unfold isRd
          go_simp
          refine hK _ ?_
          clear hK K
          refine walkL_read rfl rfl (fun K hK => ?_)
          refine ⟨by rfl, ?_⟩
          unfold isRd
          go_simp
          refine hK _ ?_
          clear hK K
          refine walkL_read rfl rfl (fun K hK => ?_)
          refine ⟨by rfl, ?_⟩
          unfold isRd
          go_simp
          refine hK _ ?_
          clear hK K
          refine walkL_read rfl rfl (fun K hK => ?_)
          refine ⟨by rfl, ?_⟩
          unfold isRd
          go_simp
          refine hK _ ?_
          clear hK K
          refine walkL_read rfl rfl (fun K hK => ?_)
          refine ⟨by rfl, ?_⟩
          unfold isRd
          go_simp
          refine hK _ ?_
          clear hK K
          refine walkL_read rfl rfl (fun K hK => ?_)
          refine ⟨by rfl, ?_⟩
          unfold isRd
          go_simp
          refine hK _ ?_
          clear hK K
          refine walkL_read rfl rfl (fun K hK => ?_)
          refine ⟨by rfl, ?_⟩
          unfold isRd
          go_simp
          refine hK _ ?_
          clear hK K
          refine walkL_read rfl rfl (fun K hK => ?_)
          refine ⟨by rfl, ?_⟩
          unfold isRd
          go_simp
          refine hK _ ?_
          clear hK K
          refine walkL_read rfl rfl (fun K hK => ?_)
          refine ⟨by rfl, ?_⟩
          unfold isRd
          go_simp
          refine hK _ ?_
          clear hK K
          refine walkL_call rfl rfl (fun K hK => ?_)
          refine ⟨by rfl, ?_⟩
          unfold upM
          go_simp
          refine ⟨M1.out, hK _ _ ?_⟩
          clear hK K
          refine walkL_call rfl rfl (fun K hK => ?_)
          refine ⟨by rfl, ?_⟩
          refine upM_append _ _ 33 rfl _ _ _ rfl rfl HAP.out ?_
          refine ⟨M3.out, hK _ _ ?_⟩
          clear hK K
          refine walkL_read rfl rfl (fun K hK => ?_)
          refine ⟨by rfl, ?_⟩
          unfold isRd
          go_simp
          refine hK _ ?_
          clear hK K
          refine walkL_last rfl (fun K hK => ?_)
          refine ⟨by rfl, ?_⟩
          unfold upM
          go_simp
          refine hK _ _ ?_
          clear hK K
          all_goals go_wp2
          all_goals go_ret
          all_goals exact ⟨by rw [HA.out.1]; rfl, _, by rw [HA.out.2]; exact HSET.out.1, (QStep.of_below HBA.out p _).trans HSET.out.2⟩
end
end Go.Proofs.YtfifmigmdiegdaaDoor
