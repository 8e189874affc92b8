/- IntakeActs: any acts of an intake, held against the document's. -/
import Derived.Test.YtfifmigmdiegdaaDoorIaDrain
namespace Go.Proofs.YtfifmigmdiegdaaDoor
open Go.RowKit
set_option maxRecDepth 100000
namespace Ik
theorem rel_tot : ∀ M : List Ask, (∀ a ∈ M, isC a.c = true) → M.length = (fi 0 M).length + (fi 1 M).length + (fi 2 M).length + (fi 3 M).length + (fi 4 M).length + (fi 5 M).length
  | [], _ => rfl
  | a :: M, h => by
    have ih := rel_tot M (fun x hx => h x (List.mem_cons_of_mem _ hx))
    obtain ⟨n, hn, e⟩ := isC_lt (h a (List.mem_cons_self ..))
    have f : ∀ c : Int, (fi c (a :: M)).length = (fi c M).length + if a.c = c then 1 else 0 := fun c => by
      unfold fi
      by_cases h : a.c = c
      · simp [h]
      · simp [h]
    rw [List.length_cons, ih, f, f, f, f, f, f, e]
    match n, hn with
    | 0, _ => simp; omega
    | 1, _ => simp; omega
    | 2, _ => simp; omega
    | 3, _ => simp; omega
    | 4, _ => simp; omega
    | 5, _ => simp; omega
theorem rel_few {L : Nat → List Ask} {M : List Ask} (h : Rel L M) (hf : ∀ c, c < 6 → (L c).length ≤ 6) : M.length ≤ 36 := by
  have e := rel_tot M h.ok
  have g : ∀ c : Nat, c < 6 → (fi (c : Int) M).length ≤ 6 := fun c hc => by rw [← h.of c hc]; exact hf c hc
  have g0 := g 0 (by decide); have g1 := g 1 (by decide); have g2 := g 2 (by decide); have g3 := g 3 (by decide); have g4 := g 4 (by decide); have g5 := g 5 (by decide)
  rw [e]
  have e1 : ((1 : Nat) : Int) = 1 := rfl
  have : (fi 0 M).length ≤ 6 := g0
  have : (fi 1 M).length ≤ 6 := g1
  have : (fi 2 M).length ≤ 6 := g2
  have : (fi 3 M).length ≤ 6 := g3
  have : (fi 4 M).length ≤ 6 := g4
  have : (fi 5 M).length ≤ 6 := g5
  omega
end Ik
theorem boxT {w : World} {b : Nat} {kd : ByteArray} {ak ac asq ait asd apr aq aid dc : Int} {ty : TypeId} (h : w.heap[b]? = some (.cells #[.string kd, .int .u8 ak, .int .i64 ac, .int .i64 asq, .int .i64 ait, .int .i64 asd, .int .i64 apr, .int .i64 aq, .int .i64 aid, .int .i64 dc] ty (0, 0))) :
    w.cell? ⟨b, 0, none⟩ = some (.string kd) ∧ w.cell? ⟨b, 1, none⟩ = some (.int .u8 ak) ∧ w.cell? ⟨b, 2, none⟩ = some (.int .i64 ac) ∧ w.cell? ⟨b, 3, none⟩ = some (.int .i64 asq) ∧ w.cell? ⟨b, 4, none⟩ = some (.int .i64 ait) ∧ w.cell? ⟨b, 5, none⟩ = some (.int .i64 asd) ∧ w.cell? ⟨b, 6, none⟩ = some (.int .i64 apr) ∧ w.cell? ⟨b, 7, none⟩ = some (.int .i64 aq) ∧ w.cell? ⟨b, 8, none⟩ = some (.int .i64 aid) ∧ w.cell? ⟨b, 9, none⟩ = some (.int .i64 dc) := by
  refine ⟨?_, ?_, ?_, ?_, ?_, ?_, ?_, ?_, ?_, ?_⟩ <;> (rw [cell_of_row _ _ _ _ _ _ h]; rfl)
/-- the program's intake, and the document's beside it -/
structure Pair (w W : World) (p q : Nat) (V : Nat → Value) (t t' : Nat) (L : Nat → List Ask) (v : Value) (M : List Ask) : Prop where
  itk : Itk W p p V t L
  doc : Doc W q q v t' M
  dis : ∀ k, qown p V k → ¬ qown q (kv v) k
  lo : w.heap.size ≤ p ∧ w.heap.size ≤ q
  below : Below w.heap.size w W
structure Twin (w W : World) (p q : Nat) (V : Nat → Value) (t : Nat) (L : Nat → List Ask) (v : Value) (M : List Ask) : Prop extends Pair w W p q V t t L v M where
  rel : Ik.Rel L M
section
variable {w W W' : World} {p q t t' t2 : Nat} {V V' : Nat → Value} {v v' : Value} {L L' : Nat → List Ask} {M M' : List Ask}
theorem Twin.later (h : Twin w W p q V t L v M) (hb : Below W.heap.size W W') : Twin w W' p q V t L v M :=
  ⟨⟨h.itk.later hb, h.doc.later hb, h.dis, h.lo, h.below.trans (hb.mono h.below.size)⟩, h.rel⟩
theorem Twin.goI (h : Twin w W p q V t L v M) (hi : Itk W' p p V' t2 L') (hs : QStep W W' p V V') : Pair w W' p q V' t2 t L' v M :=
  ⟨hi, h.doc.turned hs.turned (fun k hk e => h.dis k e hk), fun k hk e => by
    rcases hs.new k hk with h1 | h1
    · exact h.dis k h1 e
    · have := (h.doc.own_lt e).2
      omega, h.lo, h.below.trans (hs.below h.itk h.lo.1)⟩
theorem Pair.goD (h : Pair w W p q V t t' L v M) (hd : Doc W' q q v' t M') (hs : QStep W W' q (kv v) (kv v')) (hr : Ik.Rel L M') : Twin w W' p q V t L v' M' :=
  ⟨⟨h.itk.turned hs.turned (fun k hk e => h.dis k hk e), hd, fun k hk e => by
    rcases hs.new k e with h1 | h1
    · exact h.dis k hk h1
    · have := (h.itk.own_lt hk).2
      omega, h.lo, h.below.trans (hs.turned.below h.below.size (fun k hk => by have := (h.doc.own_lt hk).1; have := h.lo.2; omega))⟩, hr⟩
end
set_option maxHeartbeats 2000000 in
theorem intakeActs_any (a : Option Addr) (n cap : Nat) (l : List DAct) (ad : Nat → Addr) (w : World) (hs : Hid (Sent w ad)) (ha : Hid (ArgDos w a n l)) :
    Calls Tryd.prog 5 #[.slice a n cap] w fun e w' => e = .returned (.bool true) ∧ Below w.heap.size w w' := by
  have HTK := hide (taken_any w (hide (ier_sent hs.out)))
  by_cases hn : n ≤ 100
  case neg =>
    have c1 : (100 : Int) < n := by omega
    go_enter Tryd.func5, Tryd.ntmps5
    go_wp2_with fail
    refine HTK.out.mono ?_
    rintro e w1 ⟨rfl, hb1⟩
    simp only []
    go_wp2
    go_ret
    exact ⟨rfl, hb1⟩
  have c1 : ¬ (100 : Int) < n := by omega
  obtain ⟨hargn, hargs⟩ := ha.out
  have HARGN := hide hargn; have HARGS := hide hargs
  clear hargn hargs ha
  go_enter Tryd.func5, Tryd.ntmps5
  go_wp2_with fail
  refine HTK.out.mono ?_
  rintro e w1 ⟨rfl, hb1⟩
  have HB1 := hide hb1
  clear hb1 HTK
  simp only []
  go_wp2_with fail
  refine (new_any w1).mono ?_
  rintro e w2 ⟨rfl, hI2, hb2⟩
  have hlo : w.heap.size ≤ w1.heap.size := HB1.out.size
  have HB2 := hide (HB1.out.trans (hb2.mono hlo))
  generalize w1.heap.size = p at *
  have HI2 := hide hI2
  clear hI2 hb2 HB1 w1
  simp only []
  go_wp2_with fail
  obtain ⟨q, hq⟩ : ∃ q, w2.heap.size = q := ⟨_, rfl⟩
  have HPo : Hid (Twin w (w2.alloc (.cells #[.slice none 0 0, .int .i64 0] 42)) p q (fun _ => .slice none 0 0) 0 (fun _ => []) (.slice none 0 0) []) := by
    refine ⟨⟨HI2.out.later ((Below.refl _ _).alloc (Nat.le_refl _) _), ⟨by rw [← hq]; exact heap_alloc_new w2 _, Nat.le_refl _, by decide, World.ownsRow_nil _ _ _ _, by decide⟩, ?_, ⟨hlo, by rw [← hq]; exact HB2.out.size⟩, HB2.out.alloc HB2.out.size _⟩, Ik.rel_none⟩
    rintro k (rfl | ⟨c, _, h⟩)
    · rintro (h | ⟨c, _, h⟩)
      · have := HI2.out.lt; omega
      · simp [kv, Value.ownBlock] at h
    · simp [Value.ownBlock] at h
  rw [hq]
  generalize w2.alloc (.cells #[.slice none 0 0, .int .i64 0] 42) = w3 at *
  clear hq HI2 HB2 hlo w2
  go_loopw [6] (fun c wr => ∃ (k : Nat) (V : Nat → Value) (t : Nat) (L : Nat → List Ask) (v : Value) (M : List Ask), k ≤ n ∧ c = .int .i64 k ∧ Twin w wr p q V t L v M) (fun c _ => n - (intOf c).toNat)
  case atStart => exact ⟨0, _, _, _, _, _, Nat.zero_le _, rfl, HPo.out⟩
  case round =>
    obtain ⟨k, V, t, L, v, M, hk, rfl, hP⟩ := hrel
    have HPr := hide hP
    clear hP HPo
    obtain ⟨wv, hwv⟩ : ∃ wv, wv = wr := ⟨_, rfl⟩
    subst hwv
    by_cases hlt : k < n
    · have hki : (k : Int) < n := by omega
      obtain ⟨g, rfl, hlg⟩ : ∃ g, a = some g ∧ DosAt w g l := by
        rcases HARGS.out with h | h
        · omega
        · exact h
      obtain ⟨k0, k1, k2, k3, k4, k5, k6, k7, k8, k9⟩ := (hlg.later HPr.out.below) k (by rw [HARGN.out]; exact hlt)
      clear hlg
      generalize dnth l k = A at *
      obtain ⟨kd, ⟨ak, ac, asq, ait, asd, apr, aq, aid⟩, dc⟩ := A
      simp only [] at k0 k1 k2 k3 k4 k5 k6 k7 k8 k9
      have HPb := hide (HPr.out.later ((Below.refl _ wv).alloc (Nat.le_refl _) (.cells #[.string kd, .int .u8 ak, .int .i64 ac, .int .i64 asq, .int .i64 ait, .int .i64 asd, .int .i64 apr, .int .i64 aq, .int .i64 aid, .int .i64 dc] 32)))
      have HXb := hide (heap_alloc_new wv (.cells #[.string kd, .int .u8 ak, .int .i64 ac, .int .i64 asq, .int .i64 ait, .int .i64 asd, .int .i64 apr, .int .i64 aq, .int .i64 aid, .int .i64 dc] 32))
      have HNV : Hid (¬ qown p V wv.heap.size) := fun h => by have := (HPr.out.itk.own_lt h).2; omega
      have HNU : Hid (¬ qown q (kv v) wv.heap.size) := fun h => by have := (HPr.out.doc.own_lt h).2; omega
      have ht := HPr.out.itk.turn
      cases hkp : (kd.toList == [112, 117, 116]) with
      | true =>
        go_wp2_with fail
        generalize wv.alloc (.cells #[.string kd, .int .u8 ak, .int .i64 ac, .int .i64 asq, .int .i64 ait, .int .i64 asd, .int .i64 apr, .int .i64 aq, .int .i64 aid, .int .i64 dc] 32) = wb at *
        have hbl : wv.heap.size < wb.heap.size := lt_of_block HXb.out
        generalize wv.heap.size = b at *
        clear k0 k1 k2 k3 k4 k5 k6 k7 k8 k9 HPr
        obtain ⟨XT, val, hcl, hmk⟩ := class_all (fun W' => W'.heap[b]? = some (.cells #[.string kd, .int .u8 ak, .int .i64 ac, .int .i64 asq, .int .i64 ait, .int .i64 asd, .int .i64 apr, .int .i64 aq, .int .i64 aid, .int .i64 dc] 32 (0, 0)))
        obtain ⟨x0, hx0⟩ := hmk wb.drew HXb.out
        have hnx : Nonempty XT := ⟨x0⟩
        have s0 : ∀ x, (val x).cell? ⟨b, 0, none⟩ = some (.string kd) := fun x => (boxT (hcl x)).1
        have s1 : ∀ x, (val x).cell? ⟨b, 1, none⟩ = some (.int .u8 ak) := fun x => (boxT (hcl x)).2.1
        have s2 : ∀ x, (val x).cell? ⟨b, 2, none⟩ = some (.int .i64 ac) := fun x => (boxT (hcl x)).2.2.1
        have s3 : ∀ x, (val x).cell? ⟨b, 3, none⟩ = some (.int .i64 asq) := fun x => (boxT (hcl x)).2.2.2.1
        have s4 : ∀ x, (val x).cell? ⟨b, 4, none⟩ = some (.int .i64 ait) := fun x => (boxT (hcl x)).2.2.2.2.1
        have s5 : ∀ x, (val x).cell? ⟨b, 5, none⟩ = some (.int .i64 asd) := fun x => (boxT (hcl x)).2.2.2.2.2.1
        have s6 : ∀ x, (val x).cell? ⟨b, 6, none⟩ = some (.int .i64 apr) := fun x => (boxT (hcl x)).2.2.2.2.2.2.1
        have s7 : ∀ x, (val x).cell? ⟨b, 7, none⟩ = some (.int .i64 aq) := fun x => (boxT (hcl x)).2.2.2.2.2.2.2.1
        have s8 : ∀ x, (val x).cell? ⟨b, 8, none⟩ = some (.int .i64 aid) := fun x => (boxT (hcl x)).2.2.2.2.2.2.2.2.1
        have s9 : ∀ x, (val x).cell? ⟨b, 9, none⟩ = some (.int .i64 dc) := fun x => (boxT (hcl x)).2.2.2.2.2.2.2.2.2
        have HMK := hide hmk
        have HPd := hide (HPb.out.later (drew_below wb))
        clear hmk hcl
        refine region_many_calls (val := val) [3, 7, 8] [0, 1, 2, 4, 5, 6, 3, 7, 8, 9] (by kernel_rfl) (by kernel_rfl) x0 hx0 ?_
        rw [hx0]
        clear hx0
        refine walkM_read rfl rfl (fun K hK => ?_)
        refine ⟨by rfl, ?_⟩
        unfold isRd
        go_simp
        refine hK _ ?_
        clear hK K
        refine walkM_read rfl rfl (fun K hK => ?_)
        refine ⟨by rfl, ?_⟩
        unfold isRd
        go_simp
        refine hK _ ?_
        clear hK K
        refine walkM_read rfl rfl (fun K hK => ?_)
        refine ⟨by rfl, ?_⟩
        unfold isRd
        go_simp
        refine hK _ ?_
        clear hK K
        refine walkM_read rfl rfl (fun K hK => ?_)
        refine ⟨by rfl, ?_⟩
        unfold isRd
        go_simp
        refine hK _ ?_
        clear hK K
        refine walkM_read rfl rfl (fun K hK => ?_)
        refine ⟨by rfl, ?_⟩
        unfold isRd
        go_simp
        refine hK _ ?_
        clear hK K
        refine walkM_read rfl rfl (fun K hK => ?_)
        refine ⟨by rfl, ?_⟩
        unfold isRd
        go_simp
        refine hK _ ?_
        clear hK K
        refine walkM_call rfl rfl (fun K hK => ?_)
        refine ⟨by rfl, ?_⟩
        unfold upM
        go_simp
        refine (put_any (T := adT ad) ⟨ak, ac, asq, ait, asd, apr, aq, aid⟩ wb.drew (ier_sent (hs.out.later HPd.out.below)) (hide HPd.out.itk)).mono ?_
        rintro e w4 ⟨rfl, V4, hI4, hs4⟩
        have HX4 : Hid (w4.heap[b]? = some (.cells #[.string kd, .int .u8 ak, .int .i64 ac, .int .i64 asq, .int .i64 ait, .int .i64 asd, .int .i64 apr, .int .i64 aq, .int .i64 aid, .int .i64 dc] 32 (0, 0))) := (hs4.turned.block b hbl HNV.out).trans HXb.out
        have hR4 := HPd.out.rel.put ⟨ak, ac, asq, ait, asd, apr, aq, aid⟩
        have h36 := Ik.rel_few hR4 hI4.few
        have HH := hide (HPd.out.goI hI4 hs4)
        refine ⟨_, rfl, HMK.out _ HX4.out, hK _ _ ?_⟩
        clear hK K
        have HMP := hide (mput_any ⟨ak, ac, asq, ait, asd, apr, aq, aid⟩ w4 (hide HH.out.doc) (fun h0 => by
          unfold Ik.mputL at h36
          rw [if_pos h0, List.length_append] at h36
          exact h36))
        unfold askV askA at HMP
        simp only [] at HMP
        refine walkM_call rfl rfl (fun K hK => ?_)
        refine ⟨by rfl, ?_⟩
        unfold upM
        go_simp
        refine HMP.out.mono ?_
        rintro e w5 ⟨rfl, v5, hD5, hs5⟩
        have HX5 : Hid (w5.heap[b]? = some (.cells #[.string kd, .int .u8 ak, .int .i64 ac, .int .i64 asq, .int .i64 ait, .int .i64 asd, .int .i64 apr, .int .i64 aq, .int .i64 aid, .int .i64 dc] 32 (0, 0))) := (hs5.turned.block b (lt_of_block HX4.out) HNU.out).trans HX4.out
        have HP5 := hide (HH.out.goD hD5 hs5 hR4)
        refine ⟨_, rfl, HMK.out _ HX5.out, hK _ _ ?_⟩
        clear hK K HMP h36 hR4 hI4 hs4 hD5 hs5
        have HCD := hide (coded_any ad (Ik.mputC M ⟨ak, ac, asq, ait, asd, apr, aq, aid⟩) w5 (hide (hs.out.later HP5.out.below)) (by unfold Ik.mputC; (repeat' split) <;> decide))
        rw [← HPb.out.rel.putC ⟨ak, ac, asq, ait, asd, apr, aq, aid⟩] at HCD ⊢
        refine walkM_call rfl rfl (fun K hK => ?_)
        refine ⟨by rfl, ?_⟩
        unfold upM
        generalize errC (adT ad) (Ik.putC L ⟨ak, ac, asq, ait, asd, apr, aq, aid⟩) = ev at *
        generalize ((Ik.putC L ⟨ak, ac, asq, ait, asd, apr, aq, aid⟩ : Nat) : Int) = en at *
        go_simp
        refine HCD.out.mono ?_
        rintro e w6 ⟨rfl, hb6⟩
        have HP6 := hide (HP5.out.later hb6)
        have HX6 : Hid (w6.heap[b]? = some (.cells #[.string kd, .int .u8 ak, .int .i64 ac, .int .i64 asq, .int .i64 ait, .int .i64 asd, .int .i64 apr, .int .i64 aq, .int .i64 aid, .int .i64 dc] 32 (0, 0))) := (hb6.block b (lt_of_block HX5.out)).trans HX5.out
        refine ⟨_, rfl, HMK.out _ HX6.out, hK _ _ ?_⟩
        clear hK K HCD hb6 HP5 HX5 HX4
        refine walkM_read rfl rfl (fun K hK => ?_)
        refine ⟨by rfl, ?_⟩
        unfold isRd
        go_simp
        refine hK _ ?_
        clear hK K
        refine walkM_nil ?_
        clear s0 s1 s2 s3 s4 s5 s6 s7 s8 s9
        generalize Ik.mputL M ⟨ak, ac, asq, ait, asd, apr, aq, aid⟩ = M6 at *
        generalize Ik.putL L ⟨ak, ac, asq, ait, asd, apr, aq, aid⟩ = L6 at *
        obtain ⟨k0, k1, k2, k3, k4, k5, k6, k7, k8, k9⟩ := boxT HX6.out
        have m1 := HP6.out.doc.at.2
        have HQT : Hid (∀ z, Calls Tryd.prog 17 #[.pointer (some ⟨p, 0, none⟩)] (w6.drewN z) fun e w' => e = .returned (.int .i64 (t : Nat)) ∧ w' = w6.drewN z) := fun z => turn_any (w6.drewN z) (hide (HP6.out.itk.later (blw w6 z)))
        have HQW : Hid (∀ z, Calls Tryd.prog 10 #[.pointer (some ⟨p, 0, none⟩), .int .i64 dc] (w6.drewN z) fun e w' => e = .returned (.int .i64 ((Ik.fi dc M6).length : Nat)) ∧ w' = w6.drewN z) := fun z => by
          have := wait_any dc (w6.drewN z) (hide (HP6.out.itk.later (blw w6 z)))
          rw [HP6.out.rel.wait dc] at this
          exact this
        have HQM : Hid (∀ z, Calls Tryd.prog 18 #[.pointer (some ⟨q, 0, none⟩), .int .i64 dc] (w6.drewN z) fun e w' => e = .returned (.int .i64 ((Ik.fi dc M6).length : Nat)) ∧ w' = w6.drewN z) := fun z => mwait_any dc (w6.drewN z) (hide (HP6.out.doc.later (blw w6 z)))
        generalize (Ik.fi dc M6).length = wn at *
        have hne : ((wn : Int) != (wn : Int)) = false := by simp
        obtain ⟨tt, htt⟩ : ∃ tt : Int, ((t : Nat) : Int) = tt := ⟨_, rfl⟩
        rw [htt] at m1 HQT
        have hnt : (tt != tt) = false := by simp
        clear htt
        go_wp2_with fail
        go_quiet (first | (go_at_call 17; exact Calls.quiet_of_same (HQT.out _)) | (go_at_call 10; exact Calls.quiet_of_same (HQW.out _)) | (go_at_call 18; exact Calls.quiet_of_same (HQM.out _)))
        go_wp2
        exact ⟨⟨k + 1, _, _, _, _, _, by omega, by go_num, HP6.out.later (blw _ _)⟩, by simp [intOf]; omega⟩
      | false =>
        cases hkc : (kd.toList == [99, 108, 101, 97, 114]) with
        | true =>
          go_wp2_with fail
          generalize wv.alloc (.cells #[.string kd, .int .u8 ak, .int .i64 ac, .int .i64 asq, .int .i64 ait, .int .i64 asd, .int .i64 apr, .int .i64 aq, .int .i64 aid, .int .i64 dc] 32) = wb at *
          have hbl : wv.heap.size < wb.heap.size := lt_of_block HXb.out
          generalize wv.heap.size = b at *
          clear k0 k1 k2 k3 k4 k5 k6 k7 k8 k9 HPr
          obtain ⟨XT, val, hcl, hmk⟩ := class_all (fun W' => W'.heap[b]? = some (.cells #[.string kd, .int .u8 ak, .int .i64 ac, .int .i64 asq, .int .i64 ait, .int .i64 asd, .int .i64 apr, .int .i64 aq, .int .i64 aid, .int .i64 dc] 32 (0, 0)))
          obtain ⟨x0, hx0⟩ := hmk wb.drew HXb.out
          have hnx : Nonempty XT := ⟨x0⟩
          have s0 : ∀ x, (val x).cell? ⟨b, 0, none⟩ = some (.string kd) := fun x => (boxT (hcl x)).1
          have s1 : ∀ x, (val x).cell? ⟨b, 1, none⟩ = some (.int .u8 ak) := fun x => (boxT (hcl x)).2.1
          have s2 : ∀ x, (val x).cell? ⟨b, 2, none⟩ = some (.int .i64 ac) := fun x => (boxT (hcl x)).2.2.1
          have s3 : ∀ x, (val x).cell? ⟨b, 3, none⟩ = some (.int .i64 asq) := fun x => (boxT (hcl x)).2.2.2.1
          have s4 : ∀ x, (val x).cell? ⟨b, 4, none⟩ = some (.int .i64 ait) := fun x => (boxT (hcl x)).2.2.2.2.1
          have s5 : ∀ x, (val x).cell? ⟨b, 5, none⟩ = some (.int .i64 asd) := fun x => (boxT (hcl x)).2.2.2.2.2.1
          have s6 : ∀ x, (val x).cell? ⟨b, 6, none⟩ = some (.int .i64 apr) := fun x => (boxT (hcl x)).2.2.2.2.2.2.1
          have s7 : ∀ x, (val x).cell? ⟨b, 7, none⟩ = some (.int .i64 aq) := fun x => (boxT (hcl x)).2.2.2.2.2.2.2.1
          have s8 : ∀ x, (val x).cell? ⟨b, 8, none⟩ = some (.int .i64 aid) := fun x => (boxT (hcl x)).2.2.2.2.2.2.2.2.1
          have s9 : ∀ x, (val x).cell? ⟨b, 9, none⟩ = some (.int .i64 dc) := fun x => (boxT (hcl x)).2.2.2.2.2.2.2.2.2
          have HMK := hide hmk
          have HPd := hide (HPb.out.later (drew_below wb))
          clear hmk hcl
          refine region_many_calls (val := val) [3, 7] [0, 1, 2, 4, 5, 6, 3, 7, 8] (by kernel_rfl) (by kernel_rfl) x0 hx0 ?_
          rw [hx0]
          clear hx0
          refine walkM_read rfl rfl (fun K hK => ?_)
          refine ⟨by rfl, ?_⟩
          unfold isRd
          go_simp
          refine hK _ ?_
          clear hK K
          refine walkM_read rfl rfl (fun K hK => ?_)
          refine ⟨by rfl, ?_⟩
          unfold isRd
          go_simp
          refine hK _ ?_
          clear hK K
          refine walkM_read rfl rfl (fun K hK => ?_)
          refine ⟨by rfl, ?_⟩
          unfold isRd
          go_simp
          refine hK _ ?_
          clear hK K
          refine walkM_read rfl rfl (fun K hK => ?_)
          refine ⟨by rfl, ?_⟩
          unfold isRd
          go_simp
          refine hK _ ?_
          clear hK K
          refine walkM_read rfl rfl (fun K hK => ?_)
          refine ⟨by rfl, ?_⟩
          unfold isRd
          go_simp
          refine hK _ ?_
          clear hK K
          refine walkM_read rfl rfl (fun K hK => ?_)
          refine ⟨by rfl, ?_⟩
          unfold isRd
          go_simp
          refine hK _ ?_
          clear hK K
          refine walkM_call rfl rfl (fun K hK => ?_)
          refine ⟨by rfl, ?_⟩
          unfold upM
          go_simp
          refine (clear_any dc wb.drew (hide HPd.out.itk)).mono ?_
          rintro e w4 ⟨rfl, V4, hI4, hs4⟩
          have HX4 : Hid (w4.heap[b]? = some (.cells #[.string kd, .int .u8 ak, .int .i64 ac, .int .i64 asq, .int .i64 ait, .int .i64 asd, .int .i64 apr, .int .i64 aq, .int .i64 aid, .int .i64 dc] 32 (0, 0))) := (hs4.turned.block b hbl HNV.out).trans HXb.out
          have HH := hide (HPd.out.goI hI4 hs4)
          refine ⟨_, rfl, HMK.out _ HX4.out, hK _ _ ?_⟩
          clear hK K
          refine walkM_call rfl rfl (fun K hK => ?_)
          refine ⟨by rfl, ?_⟩
          unfold upM
          go_simp
          refine (mclear_any dc w4 (hide HH.out.doc)).mono ?_
          rintro e w6 ⟨rfl, v5, hD5, hs5⟩
          have HX6 : Hid (w6.heap[b]? = some (.cells #[.string kd, .int .u8 ak, .int .i64 ac, .int .i64 asq, .int .i64 ait, .int .i64 asd, .int .i64 apr, .int .i64 aq, .int .i64 aid, .int .i64 dc] 32 (0, 0))) := (hs5.turned.block b (lt_of_block HX4.out) HNU.out).trans HX4.out
          have HP6 := hide (HH.out.goD hD5 hs5 (HPb.out.rel.clear dc))
          refine ⟨_, rfl, HMK.out _ HX6.out, hK _ _ ?_⟩
          clear hK K hI4 hs4 hD5 hs5 HX4
          rw [HPb.out.rel.wait dc]
          generalize (Ik.fi dc M).length = wc at *
          have hnc : ((wc : Int) != (wc : Int)) = false := by simp
          refine walkM_read rfl rfl (fun K hK => ?_)
          refine ⟨by rfl, ?_⟩
          unfold isRd
          go_simp
          refine hK _ ?_
          clear hK K
          refine walkM_nil ?_
          clear s0 s1 s2 s3 s4 s5 s6 s7 s8 s9
          generalize Ik.off dc M = M6 at *
          generalize Ik.clearL L dc = L6 at *
          obtain ⟨k0, k1, k2, k3, k4, k5, k6, k7, k8, k9⟩ := boxT HX6.out
          have m1 := HP6.out.doc.at.2
          have HQT : Hid (∀ z, Calls Tryd.prog 17 #[.pointer (some ⟨p, 0, none⟩)] (w6.drewN z) fun e w' => e = .returned (.int .i64 (t : Nat)) ∧ w' = w6.drewN z) := fun z => turn_any (w6.drewN z) (hide (HP6.out.itk.later (blw w6 z)))
          have HQW : Hid (∀ z, Calls Tryd.prog 10 #[.pointer (some ⟨p, 0, none⟩), .int .i64 dc] (w6.drewN z) fun e w' => e = .returned (.int .i64 ((Ik.fi dc M6).length : Nat)) ∧ w' = w6.drewN z) := fun z => by
            have := wait_any dc (w6.drewN z) (hide (HP6.out.itk.later (blw w6 z)))
            rw [HP6.out.rel.wait dc] at this
            exact this
          have HQM : Hid (∀ z, Calls Tryd.prog 18 #[.pointer (some ⟨q, 0, none⟩), .int .i64 dc] (w6.drewN z) fun e w' => e = .returned (.int .i64 ((Ik.fi dc M6).length : Nat)) ∧ w' = w6.drewN z) := fun z => mwait_any dc (w6.drewN z) (hide (HP6.out.doc.later (blw w6 z)))
          generalize (Ik.fi dc M6).length = wn at *
          have hne : ((wn : Int) != (wn : Int)) = false := by simp
          obtain ⟨tt, htt⟩ : ∃ tt : Int, ((t : Nat) : Int) = tt := ⟨_, rfl⟩
          rw [htt] at m1 HQT
          have hnt : (tt != tt) = false := by simp
          clear htt
          go_wp2_with fail
          go_quiet (first | (go_at_call 17; exact Calls.quiet_of_same (HQT.out _)) | (go_at_call 10; exact Calls.quiet_of_same (HQW.out _)) | (go_at_call 18; exact Calls.quiet_of_same (HQM.out _)))
          go_wp2
          exact ⟨⟨k + 1, _, _, _, _, _, by omega, by go_num, HP6.out.later (blw _ _)⟩, by simp [intOf]; omega⟩
        | false =>
          go_wp2_with fail
          generalize wv.alloc (.cells #[.string kd, .int .u8 ak, .int .i64 ac, .int .i64 asq, .int .i64 ait, .int .i64 asd, .int .i64 apr, .int .i64 aq, .int .i64 aid, .int .i64 dc] 32) = wb at *
          have hbl : wv.heap.size < wb.heap.size := lt_of_block HXb.out
          generalize wv.heap.size = b at *
          clear k0 k1 k2 k3 k4 k5 k6 k7 k8 k9 HPr
          refine (drain_any wb (hide HPb.out.itk)).mono ?_
          rintro e w4 ⟨d4, V4, rfl, hd4, hI4, hs4, ho4⟩
          have HX4 : Hid (w4.heap[b]? = some (.cells #[.string kd, .int .u8 ak, .int .i64 ac, .int .i64 asq, .int .i64 ait, .int .i64 asd, .int .i64 apr, .int .i64 aq, .int .i64 aid, .int .i64 dc] 32 (0, 0))) := (hs4.turned.block b hbl HNV.out).trans HXb.out
          have HH := hide (HPb.out.goI hI4 hs4)
          have HD4 := hide hd4
          simp only []
          go_wp2_with fail
          refine (mdrain_any w4 (hide HH.out.doc) (hide HPb.out.rel)).mono ?_
          rintro e w5 ⟨d5, v5, rfl, hd5, hD5, hs5⟩
          have HX5 : Hid (w5.heap[b]? = some (.cells #[.string kd, .int .u8 ak, .int .i64 ac, .int .i64 asq, .int .i64 ait, .int .i64 asd, .int .i64 apr, .int .i64 aq, .int .i64 aid, .int .i64 dc] 32 (0, 0))) := (hs5.turned.block b (lt_of_block HX4.out) HNU.out).trans HX4.out
          have HP5 := hide (HH.out.goD hD5 hs5 (HPb.out.rel.drain ht))
          have HD4b := hide (row_turned HD4.out hs5.turned (fun j hj h => by
            have h1 := (HD4.out.lt j hj).1
            have h2 := (HPb.out.doc.own_lt h).2
            omega))
          have HSM := hide (same_any d4 d5 _ _ (Ik.out L t) w5 HD4b hd5 (by have := Ik.ouN_len L t 6; unfold Ik.out; omega))
          clear hd4 hI4 hs4 ho4 hd5 hD5 hs5 HX4 HD4
          simp only []
          go_wp2_with fail
          refine HSM.out.mono ?_
          rintro e w6 ⟨rfl, hb6⟩
          have HP6 := hide (HP5.out.later hb6)
          have HX6 : Hid (w6.heap[b]? = some (.cells #[.string kd, .int .u8 ak, .int .i64 ac, .int .i64 asq, .int .i64 ait, .int .i64 asd, .int .i64 apr, .int .i64 aq, .int .i64 aid, .int .i64 dc] 32 (0, 0))) := (hb6.block b (lt_of_block HX5.out)).trans HX5.out
          clear hb6 HP5 HX5 HSM HD4b
          simp only []
          generalize Ik.leftN M M.length = M6 at *
          generalize Ik.drL L t = L6 at *
          generalize Ik.who t 1 = t6 at *
          obtain ⟨k0, k1, k2, k3, k4, k5, k6, k7, k8, k9⟩ := boxT HX6.out
          have m1 := HP6.out.doc.at.2
          have HQT : Hid (∀ z, Calls Tryd.prog 17 #[.pointer (some ⟨p, 0, none⟩)] (w6.drewN z) fun e w' => e = .returned (.int .i64 (t6 : Nat)) ∧ w' = w6.drewN z) := fun z => turn_any (w6.drewN z) (hide (HP6.out.itk.later (blw w6 z)))
          have HQW : Hid (∀ z, Calls Tryd.prog 10 #[.pointer (some ⟨p, 0, none⟩), .int .i64 dc] (w6.drewN z) fun e w' => e = .returned (.int .i64 ((Ik.fi dc M6).length : Nat)) ∧ w' = w6.drewN z) := fun z => by
            have := wait_any dc (w6.drewN z) (hide (HP6.out.itk.later (blw w6 z)))
            rw [HP6.out.rel.wait dc] at this
            exact this
          have HQM : Hid (∀ z, Calls Tryd.prog 18 #[.pointer (some ⟨q, 0, none⟩), .int .i64 dc] (w6.drewN z) fun e w' => e = .returned (.int .i64 ((Ik.fi dc M6).length : Nat)) ∧ w' = w6.drewN z) := fun z => mwait_any dc (w6.drewN z) (hide (HP6.out.doc.later (blw w6 z)))
          generalize (Ik.fi dc M6).length = wn at *
          have hne : ((wn : Int) != (wn : Int)) = false := by simp
          obtain ⟨tt, htt⟩ : ∃ tt : Int, ((t6 : Nat) : Int) = tt := ⟨_, rfl⟩
          rw [htt] at m1 HQT
          have hnt : (tt != tt) = false := by simp
          clear htt
          go_wp2_with fail
          go_quiet (first | (go_at_call 17; exact Calls.quiet_of_same (HQT.out _)) | (go_at_call 10; exact Calls.quiet_of_same (HQW.out _)) | (go_at_call 18; exact Calls.quiet_of_same (HQM.out _)))
          go_wp2
          exact ⟨⟨k + 1, _, _, _, _, _, by omega, by go_num, HP6.out.later (blw _ _)⟩, by simp [intOf]; omega⟩
    · have hki : ¬ (k : Int) < n := by omega
      go_wp2
      go_ret
      exact ⟨rfl, HPr.out.below⟩
end Go.Proofs.YtfifmigmdiegdaaDoor
