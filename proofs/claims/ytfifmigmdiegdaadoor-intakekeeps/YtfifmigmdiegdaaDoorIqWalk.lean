/- IntakeKeeps: what is put comes out once, in its client's order, or is cleared. -/
import Derived.Test.YtfifmigmdiegdaaDoorIqRow
namespace Go.Proofs.YtfifmigmdiegdaaDoor
open Go.RowKit
set_option maxRecDepth 100000
namespace Ik
theorem ouN_mem {L : Nat → List Ask} {t : Nat} (ht : t < 6) {a : Ask} : ∀ k, k ≤ 6 → a ∈ ouN L t k → ∃ c, c < 6 ∧ a ∈ L c
  | 0, _, h => by cases h
  | k + 1, hk, h => by
    rw [ouN_succ L ht (by omega), List.mem_append] at h
    rcases h with h | h
    · exact ouN_mem ht k (by omega) h
    · exact ⟨who t k, who_lt t k, List.mem_of_mem_take h⟩
theorem out_client {L : Nat → List Ask} (ho : Own L) {t : Nat} (ht : t < 6) {j : Nat} (hj : j < (out L t).length) : ∃ c : Nat, c < 6 ∧ (anth (out L t) j).c = (c : Int) := by
  have hm : anth (out L t) j ∈ out L t := List.mem_of_getElem? (anth_get hj)
  obtain ⟨c, hc, h⟩ := ouN_mem ht 6 (by decide) hm
  exact ⟨c, hc, ho c hc _ h⟩
theorem out_head {L : Nat → List Ask} (ho : Own L) {t c j : Nat} (ht : t < 6) (hc : c < 6) (hj : j < (out L t).length) (he : (anth (out L t) j).c = (c : Int)) :
    (filt c ((out L t).take j)).length < 2 ∧ (L c).drop (filt c ((out L t).take j)).length = anth (out L t) j :: (L c).drop ((filt c ((out L t).take j)).length + 1) := by
  obtain ⟨f1, f2⟩ := filt_at hj he
  rw [filt_out ho ht hc] at f1 f2
  generalize (filt c ((out L t).take j)).length = q at *
  rw [List.length_take] at f2
  have hq : q < (L c).length := by omega
  refine ⟨by omega, ?_⟩
  rw [List.drop_eq_getElem_cons hq, ← f1]
  congr 1
  unfold anth
  rw [List.getD_eq_getElem?_getD, List.getElem?_take_of_lt (by omega), List.getElem?_eq_getElem hq]
  rfl
theorem out_left {L : Nat → List Ask} (ho : Own L) {t c : Nat} (ht : t < 6) (hc : c < 6) : (L c).drop (filt c (out L t)).length = drL L t c := by
  rw [drL_at L ht hc, filt_out ho ht hc, List.length_take]
  by_cases h : (L c).length ≤ 2
  · rw [Nat.min_eq_right h, List.drop_of_length_le (Nat.le_refl _), List.drop_of_length_le h]
  · rw [Nat.min_eq_left (by omega)]
end Ik
theorem box10 {w : World} {b : Nat} {kd : ByteArray} {ak ac asq ait asd apr aq aid dc : Int} {ty : TypeId} (h : w.heap[b]? = some (.cells #[.string kd, .int .u8 ak, .int .i64 ac, .int .i64 asq, .int .i64 ait, .int .i64 asd, .int .i64 apr, .int .i64 aq, .int .i64 aid, .int .i64 dc] ty (0, 0))) :
    w.cell? ⟨b, 0, none⟩ = some (.string kd) ∧ w.cell? ⟨b, 1, none⟩ = some (.int .u8 ak) ∧ w.cell? ⟨b, 2, none⟩ = some (.int .i64 ac) ∧ w.cell? ⟨b, 3, none⟩ = some (.int .i64 asq) ∧ w.cell? ⟨b, 4, none⟩ = some (.int .i64 ait) ∧ w.cell? ⟨b, 5, none⟩ = some (.int .i64 asd) ∧ w.cell? ⟨b, 6, none⟩ = some (.int .i64 apr) ∧ w.cell? ⟨b, 7, none⟩ = some (.int .i64 aq) ∧ w.cell? ⟨b, 8, none⟩ = some (.int .i64 aid) ∧ w.cell? ⟨b, 9, none⟩ = some (.int .i64 dc) := by
  refine ⟨?_, ?_, ?_, ?_, ?_, ?_, ?_, ?_, ?_, ?_⟩ <;> (rw [cell_of_row _ _ _ _ _ _ h]; rfl)
/-- six numbers in an array -/
def irow (f : Nat → Nat) : Array Value := #[.int .i64 (f 0 : Nat), .int .i64 (f 1 : Nat), .int .i64 (f 2 : Nat), .int .i64 (f 3 : Nat), .int .i64 (f 4 : Nat), .int .i64 (f 5 : Nat)]
theorem irow_get (f : Nat → Nat) {c : Nat} (hc : c < 6) : (irow f)[c]? = some (.int .i64 (f c : Nat)) := by
  match c, hc with
  | 0, _ => rfl
  | 1, _ => rfl
  | 2, _ => rfl
  | 3, _ => rfl
  | 4, _ => rfl
  | 5, _ => rfl
theorem irow_set (f : Nat → Nat) {c : Nat} (hc : c < 6) (x : Nat) : (irow f).setIfInBounds c (.int .i64 (x : Nat)) = irow (Ik.upd f c x) := by
  match c, hc with
  | 0, _ => rfl
  | 1, _ => rfl
  | 2, _ => rfl
  | 3, _ => rfl
  | 4, _ => rfl
  | 5, _ => rfl
theorem keep_end {w W : World} {p B t c Y : Nat} {V U : Nat → Value} {L M : Nat → List Ask} (h : Both w W p B V t L U M) (hc : c < 6) (v' : Value) (l' : List Ask) (hoff : Off W B v' l') (hv : v'.ownBlock = (U c).ownBlock) (hY : ¬ qown p V Y ∧ ¬ qown B U Y) (hlo : w.heap.size ≤ Y) (u : Value) :
    Both w ((W.setCell ⟨B, c, none⟩ v').setCell ⟨Y, c, none⟩ u) p B V t L (Ik.upd U c v') (Ik.upd M c l') := by
  obtain ⟨h1, h2⟩ := h.wai.set (w2 := W) hc ⟨rfl, rfl, rfl, Nat.le_refl _, fun _ _ _ => rfl⟩ hoff (fun k hk => .inl (by rw [← hv]; exact hk))
  have hb := h.goW h1 h2
  have hs := Turned.setCell (W.setCell ⟨B, c, none⟩ v') Y c u
  have hq : ∀ k, qown B (Ik.upd U c v') k → qown B U k := by
    rintro k (rfl | ⟨d, hd, hk⟩)
    · exact .inl rfl
    · by_cases e : d = c
      · subst e
        rw [Ik.upd_same, hv] at hk
        exact .inr ⟨d, hd, hk⟩
      · rw [Ik.upd_other _ _ e] at hk
        exact .inr ⟨d, hd, hk⟩
  exact ⟨hb.itk.turned hs (fun k hk e => hY.1 (by rw [← e]; exact hk)), hb.own, hb.wai.turned hs (fun k hk e => hY.2 (by rw [← e]; exact hq k hk)), hb.dis, hb.lo, hb.below.trans (hs.below hb.below.size (fun k hk => by rw [hk]; exact hlo))⟩
section
variable {T : Nat → Value}
set_option maxHeartbeats 2000000 in
theorem intakeKeeps_any (a : Option Addr) (n cap : Nat) (l : List DAct) (w : World) (he : Hid (IEr w T)) (ha : Hid (ArgDos w a n l)) :
    Calls Tryd.prog 4 #[.slice a n cap] w fun e w' => e = .returned (.bool true) ∧ Below w.heap.size w w' := by
  have HTK := hide (taken_any w he)
  by_cases hn : n ≤ 100
  case neg =>
    have c1 : (100 : Int) < n := by omega
    go_enter Tryd.func4, Tryd.ntmps4
    go_wp2_with fail
    refine HTK.out.mono ?_
    rintro e w1 ⟨rfl, hb1⟩
    simp only []
    go_wp2
    go_ret
    exact ⟨rfl, hb1⟩
  have c1 : ¬ (100 : Int) < n := by omega
  obtain ⟨hargn, hargs⟩ := ha.out
  have HARGN := hide hargn; have HARGS := hide hargs
  clear hargn hargs ha
  go_enter Tryd.func4, Tryd.ntmps4
  go_wp2_with fail
  refine HTK.out.mono ?_
  rintro e w1 ⟨rfl, hb1⟩
  have HB1 := hide hb1
  clear hb1 HTK
  simp only []
  go_wp2_with fail
  refine (new_any w1).mono ?_
  rintro e w2 ⟨rfl, hI2, hb2⟩
  have hlo : w.heap.size ≤ w1.heap.size := HB1.out.size
  have HB2 := hide (HB1.out.trans (hb2.mono hlo))
  generalize w1.heap.size = p at *
  have HI2 := hide hI2
  clear hI2 hb2 HB1 w1
  simp only []
  go_wp2_with fail
  obtain ⟨B, hB⟩ : ∃ B, w2.heap.size = B := ⟨_, rfl⟩
  have HBo : Hid (Both w (w2.alloc (.cells #[.slice none 0 0, .slice none 0 0, .slice none 0 0, .slice none 0 0, .slice none 0 0, .slice none 0 0] 37)) p B (fun _ => .slice none 0 0) 0 (fun _ => []) (fun _ => .slice none 0 0) (fun _ => [])) := by
    refine ⟨HI2.out.later ((Below.refl _ _).alloc (Nat.le_refl _) _), Ik.own_none, ⟨by rw [← hB]; exact heap_alloc_new w2 _, Nat.le_refl _, fun c hc => .inl ⟨rfl, rfl⟩, fun c d _ _ _ k h => by simp [Value.ownBlock] at h⟩, ?_, ⟨hlo, by rw [← hB]; exact HB2.out.size⟩, HB2.out.alloc HB2.out.size _⟩
    rintro k (rfl | ⟨c, _, h⟩)
    · rintro (h | ⟨c, _, h⟩)
      · have := HI2.out.lt; omega
      · simp [Value.ownBlock] at h
    · simp [Value.ownBlock] at h
  rw [hB]
  generalize w2.alloc (.cells #[.slice none 0 0, .slice none 0 0, .slice none 0 0, .slice none 0 0, .slice none 0 0, .slice none 0 0] 37) = w3 at *
  clear hB HI2 HB2 hlo w2
  go_loopw [6] (fun c wr => ∃ (k : Nat) (V : Nat → Value) (t : Nat) (L : Nat → List Ask) (U : Nat → Value), k ≤ n ∧ c = .int .i64 k ∧ Both w wr p B V t L U L) (fun c _ => n - (intOf c).toNat)
  case atStart => exact ⟨0, _, _, _, _, Nat.zero_le _, rfl, HBo.out⟩
  case round =>
    obtain ⟨k, V, t, L, U, hk, rfl, hBo⟩ := hrel
    have HBr := hide hBo
    clear hBo HBo
    obtain ⟨wv, hwv⟩ : ∃ wv, wv = wr := ⟨_, rfl⟩
    subst hwv
    by_cases hlt : k < n
    · have hki : (k : Int) < n := by omega
      obtain ⟨g, rfl, hlg⟩ : ∃ g, a = some g ∧ DosAt w g l := by
        rcases HARGS.out with h | h
        · omega
        · exact h
      obtain ⟨k0, k1, k2, k3, k4, k5, k6, k7, k8, k9⟩ := (hlg.later HBr.out.below) k (by rw [HARGN.out]; exact hlt)
      clear hlg
      generalize dnth l k = A at *
      obtain ⟨kd, ⟨ak, ac, asq, ait, asd, apr, aq, aid⟩, dc⟩ := A
      simp only [] at k0 k1 k2 k3 k4 k5 k6 k7 k8 k9
      have HBb := hide (HBr.out.later ((Below.refl _ wv).alloc (Nat.le_refl _) (.cells #[.string kd, .int .u8 ak, .int .i64 ac, .int .i64 asq, .int .i64 ait, .int .i64 asd, .int .i64 apr, .int .i64 aq, .int .i64 aid, .int .i64 dc] 32)))
      have HXb := hide (heap_alloc_new wv (.cells #[.string kd, .int .u8 ak, .int .i64 ac, .int .i64 asq, .int .i64 ait, .int .i64 asd, .int .i64 apr, .int .i64 aq, .int .i64 aid, .int .i64 dc] 32))
      have HNV : Hid (¬ qown p V wv.heap.size) := fun h => by have := (HBr.out.itk.own_lt h).2; omega
      have HNU : Hid (¬ qown B U wv.heap.size) := fun h => by have := (HBr.out.wai.own_lt h).2; omega
      have ht := HBr.out.itk.turn
      cases hkp : (kd.toList == [112, 117, 116]) with
      | true =>
        have HPT := hide (put_any (T := T) ⟨ak, ac, asq, ait, asd, apr, aq, aid⟩ _ (he.out.later HBb.out.below) (hide HBb.out.itk))
        unfold askV askA at HPT
        simp only [] at HPT
        go_wp2_with fail
        generalize wv.alloc (.cells #[.string kd, .int .u8 ak, .int .i64 ac, .int .i64 asq, .int .i64 ait, .int .i64 asd, .int .i64 apr, .int .i64 aq, .int .i64 aid, .int .i64 dc] 32) = wb at *
        have hbl : wv.heap.size < wb.heap.size := lt_of_block HXb.out
        generalize wv.heap.size = b at *
        clear k0 k1 k2 k3 k4 k5 k6 k7 k8 k9 HBr
        refine HPT.out.mono ?_
        rintro e w4 ⟨rfl, V4, hI4, hs4⟩
        have HB4 := hide (HBb.out.goI hI4 (Ik.own_put HBb.out.own _) hs4)
        have HX4 : Hid (w4.heap[b]? = some (.cells #[.string kd, .int .u8 ak, .int .i64 ac, .int .i64 asq, .int .i64 ait, .int .i64 asd, .int .i64 apr, .int .i64 aq, .int .i64 aid, .int .i64 dc] 32 (0, 0))) := (hs4.turned.block b hbl HNV.out).trans HXb.out
        clear hI4 hs4 HPT
        by_cases hp0 : Ik.putC L ⟨ak, ac, asq, ait, asd, apr, aq, aid⟩ = 0
        · have HL4 : Hid (Ik.putL L ⟨ak, ac, asq, ait, asd, apr, aq, aid⟩ = Ik.upd L ac.toNat (L ac.toNat ++ [⟨ak, ac, asq, ait, asd, apr, aq, aid⟩])) := by show _ = _; unfold Ik.putL; rw [if_pos hp0]
          rw [hp0]
          have hC : Ik.isC ac = true := by
            unfold Ik.putC at hp0
            by_cases h1 : Ik.isC ac = true
            · exact h1
            · simp only [h1, if_false, Bool.false_eq_true] at hp0
              split at hp0 <;> cases hp0
          obtain ⟨c, hc6, rfl⟩ := Ik.isC_lt hC
          rw [Int.toNat_natCast] at HL4
          clear hp0 hC
          have hc0 : ¬ (c : Int) < 0 := by omega
          have hc5 : ¬ (6 : Int) ≤ c := by omega
          have hci : (c : Int) < 6 := by omega
          simp only [errC]
          obtain ⟨k0, k1, k2, k3, k4, k5, k6, k7, k8, k9⟩ := box10 HX4.out
          go_wp2_with fail
          -- the append
          have hbD : Below w4.heap.size w4 (w4.drew.alloc (.cells #[.int .u8 ak, .int .i64 c, .int .i64 asq, .int .i64 ait, .int .i64 asd, .int .i64 apr, .int .i64 aq, .int .i64 aid] 30)) := (drew_below w4).alloc (Nat.le_refl _) _
          have hBA := HB4.out.later hbD
          obtain ⟨v5, w5, hap, hoff, hg5, hloc⟩ := run_append_off (w4.drew.alloc (.cells #[.int .u8 ak, .int .i64 c, .int .i64 asq, .int .i64 ait, .int .i64 asd, .int .i64 apr, .int .i64 aq, .int .i64 aid] 30)) B (U c) (L c) (hBA.wai.row c hc6) ⟨ak, c, asq, ait, asd, apr, aq, aid⟩ ⟨w4.heap.size, 0, none⟩ (fun j u hj => cell_new8 w4.drew ⟨ak, c, asq, ait, asd, apr, aq, aid⟩ 30 _ rfl j u hj) (by have := HBb.out.itk.few c hc6; omega) (by have := hBA.wai.lt; omega)
          obtain ⟨a5, n5, c5, hf5⟩ : ∃ a n c, v5 = .slice a n c := by
            obtain ⟨a, c, h⟩ := hoff.form
            exact ⟨_, _, _, h⟩
          obtain ⟨aU, mU, cU, hU⟩ : ∃ a n k, U c = .slice a n k := by
            obtain ⟨a, k, h⟩ := (HB4.out.wai.row c hc6).form
            exact ⟨_, _, _, h⟩
          have HSET := hide (hBA.wai.set hc6 hg5 hoff hloc)
          have HB6 := hide (hBA.goW HSET.out.1 HSET.out.2)
          have X0 : Hid (w4.drew.heap[b]? = some (.cells #[.string kd, .int .u8 ak, .int .i64 c, .int .i64 asq, .int .i64 ait, .int .i64 asd, .int .i64 apr, .int .i64 aq, .int .i64 aid, .int .i64 dc] 32 (0, 0))) := HX4.out
          have X1 : Hid ((w4.drew.alloc (.cells #[.int .u8 ak, .int .i64 c, .int .i64 asq, .int .i64 ait, .int .i64 asd, .int .i64 apr, .int .i64 aq, .int .i64 aid] 30)).heap[b]? = some (.cells #[.string kd, .int .u8 ak, .int .i64 c, .int .i64 asq, .int .i64 ait, .int .i64 asd, .int .i64 apr, .int .i64 aq, .int .i64 aid, .int .i64 dc] 32 (0, 0))) := (hbD.block b (lt_of_block HX4.out)).trans HX4.out
          have X5 : Hid (w5.heap[b]? = some (.cells #[.string kd, .int .u8 ak, .int .i64 c, .int .i64 asq, .int .i64 ait, .int .i64 asd, .int .i64 apr, .int .i64 aq, .int .i64 aid, .int .i64 dc] 32 (0, 0))) := (hg5.block b (lt_of_block X1.out) (fun e => HNU.out (.inr ⟨c, hc6, e.symm⟩))).trans X1.out
          have Y1 := hide hBA.wai.cell
          have Y5 := hide (hBA.wai.openAt hc6 hg5)
          have Y0 : Hid (w4.drew.heap[B]? = some (.cells (srow U) 37 (0, 0))) := HB4.out.wai.cell
          rw [hU, hf5] at hap
          rw [hf5] at HB6
          have HAP := hide hap
          obtain ⟨XT, val, hcl, hmk⟩ := class_all (fun W' => W'.heap[b]? = some (.cells #[.string kd, .int .u8 ak, .int .i64 c, .int .i64 asq, .int .i64 ait, .int .i64 asd, .int .i64 apr, .int .i64 aq, .int .i64 aid, .int .i64 dc] 32 (0, 0)) ∧ W'.heap[B]? = some (.cells (srow U) 37 (0, 0)))
          obtain ⟨x0, hx0⟩ := hmk w4.drew ⟨X0.out, Y0.out⟩
          have hnx : Nonempty XT := ⟨x0⟩
          have s0 : ∀ x, (val x).cell? ⟨b, 0, none⟩ = some (.string kd) := fun x => (box10 (hcl x).1).1
          have s1 : ∀ x, (val x).cell? ⟨b, 1, none⟩ = some (.int .u8 ak) := fun x => (box10 (hcl x).1).2.1
          have s2 : ∀ x, (val x).cell? ⟨b, 2, none⟩ = some (.int .i64 (c : Int)) := fun x => (box10 (hcl x).1).2.2.1
          have s3 : ∀ x, (val x).cell? ⟨b, 3, none⟩ = some (.int .i64 asq) := fun x => (box10 (hcl x).1).2.2.2.1
          have s4 : ∀ x, (val x).cell? ⟨b, 4, none⟩ = some (.int .i64 ait) := fun x => (box10 (hcl x).1).2.2.2.2.1
          have s5 : ∀ x, (val x).cell? ⟨b, 5, none⟩ = some (.int .i64 asd) := fun x => (box10 (hcl x).1).2.2.2.2.2.1
          have s6 : ∀ x, (val x).cell? ⟨b, 6, none⟩ = some (.int .i64 apr) := fun x => (box10 (hcl x).1).2.2.2.2.2.2.1
          have s7 : ∀ x, (val x).cell? ⟨b, 7, none⟩ = some (.int .i64 aq) := fun x => (box10 (hcl x).1).2.2.2.2.2.2.2.1
          have s8 : ∀ x, (val x).cell? ⟨b, 8, none⟩ = some (.int .i64 aid) := fun x => (box10 (hcl x).1).2.2.2.2.2.2.2.2.1
          have s9 : ∀ x, (val x).cell? ⟨b, 9, none⟩ = some (.int .i64 dc) := fun x => (box10 (hcl x).1).2.2.2.2.2.2.2.2.2
          have sU : ∀ x, (val x).cell? ⟨B, c, none⟩ = some (.slice aU mU cU) := fun x => by rw [cell_of_row _ _ _ _ _ _ (hcl x).2, srow_get U hc6, hU]
          have M1 := hide (hmk _ ⟨X1.out, Y1.out⟩)
          have M5 := hide (hmk _ ⟨X5.out, Y5.out⟩)
          clear hmk hcl hap hoff hg5 hloc hBA hbD hU k0 k1 k2 k3 k4 k5 k6 k7 k8 k9
          refine region_many_calls (val := val) [7, 8] [0, 1, 2, 3, 4, 5, 6, 7, 8, 9] (by kernel_rfl) (by kernel_rfl) x0 hx0 ?_
          rw [hx0]
          clear hx0
          refine walkM_read rfl rfl (fun K hK => ?_)
          refine ⟨by rfl, ?_⟩
          unfold isRd
          go_simp
          refine hK _ ?_
          clear hK K
          refine walkM_read rfl rfl (fun K hK => ?_)
          refine ⟨by rfl, ?_⟩
          unfold isRd
          go_simp
          refine hK _ ?_
          clear hK K
          refine walkM_read rfl rfl (fun K hK => ?_)
          refine ⟨by rfl, ?_⟩
          unfold isRd
          go_simp
          refine hK _ ?_
          clear hK K
          refine walkM_read rfl rfl (fun K hK => ?_)
          refine ⟨by rfl, ?_⟩
          unfold isRd
          go_simp
          refine hK _ ?_
          clear hK K
          refine walkM_read rfl rfl (fun K hK => ?_)
          refine ⟨by rfl, ?_⟩
          unfold isRd
          go_simp
          refine hK _ ?_
          clear hK K
          refine walkM_read rfl rfl (fun K hK => ?_)
          refine ⟨by rfl, ?_⟩
          unfold isRd
          go_simp
          refine hK _ ?_
          clear hK K
          refine walkM_read rfl rfl (fun K hK => ?_)
          refine ⟨by rfl, ?_⟩
          unfold isRd
          go_simp
          refine hK _ ?_
          clear hK K
          refine walkM_call rfl rfl (fun K hK => ?_)
          refine ⟨by rfl, ?_⟩
          unfold upM
          go_simp
          refine ⟨M1.out, hK _ _ ?_⟩
          clear hK K
          refine walkM_call rfl rfl (fun K hK => ?_)
          refine ⟨by rfl, ?_⟩
          refine upM_append _ _ 33 rfl _ _ _ rfl rfl HAP.out ?_
          refine ⟨M5.out, hK _ _ ?_⟩
          clear hK K
          refine walkM_read rfl rfl (fun K hK => ?_)
          refine ⟨by rfl, ?_⟩
          unfold isRd
          go_simp
          refine hK _ ?_
          clear hK K
          refine walkM_nil ?_
          clear s0 s1 s2 s3 s4 s5 s6 s7 s8 s9 sU M1 M5
          obtain ⟨k0, k1, k2, k3, k4, k5, k6, k7, k8, k9⟩ := box10 X5.out
          have y0 : w5.cell? ⟨B, c, none⟩ = some (U c) := by rw [cell_of_row _ _ _ _ _ _ Y5.out, srow_get U hc6]
          have yf : w5.frozen? ⟨B, c, none⟩ = false := by simp [World.frozen?, Y5.out]
          have HB7 : Hid (Both w (w5.setCell ⟨B, c, none⟩ (.slice a5 n5 c5)) p B V4 t (Ik.upd L c (L c ++ [⟨ak, c, asq, ait, asd, apr, aq, aid⟩])) (Ik.upd U c (.slice a5 n5 c5)) (Ik.upd L c (L c ++ [⟨ak, c, asq, ait, asd, apr, aq, aid⟩]))) := by
            rw [HL4.out] at HB6
            exact HB6.out
          clear HB6 HSET
          go_wp2_with fail
          clear y0 yf k0 k1 k2 k3 k4 k5 k6 k7 k8 k9
          generalize w5.setCell ⟨B, c, none⟩ (.slice a5 n5 c5) = w7 at *
          generalize Ik.upd L c (L c ++ [⟨ak, c, asq, ait, asd, apr, aq, aid⟩]) = L7 at *
          generalize Ik.upd U c (.slice a5 n5 c5) = U7 at *
          have hlen : ∀ c, c < 6 → ∃ a k, U7 c = .slice a (L7 c).length k := fun c hc => (HB7.out.wai.row c hc).form
          have HLEN := hide hlen
          clear hlen
          go_wp2_with fail
          go_loopw [14] (fun c wr => ∃ (i : Nat), i ≤ 6 ∧ c = .int .i64 i ∧ Both w wr p B V4 t L7 U7 L7) (fun c _ => 6 - (intOf c).toNat)
          case atStart => exact ⟨0, Nat.zero_le _, rfl, HB7.out⟩
          case round =>
            obtain ⟨i, hi, rfl, hBi⟩ := hrel
            have HBi := hide hBi
            clear hBi
            by_cases hi6 : i < 6
            · have hii : (i : Int) < 6 := by omega
              have hat := HBi.out.wai.at hi6
              obtain ⟨ai, ci, hUi⟩ := HLEN.out i hi6
              rw [hUi] at hat
              have hf := HBi.out.itk.few i hi6
              have HQW : Hid (∀ q, Calls Tryd.prog 10 #[.pointer (some ⟨p, 0, none⟩), .int .i64 (i : Int)] (wr.drewN q) fun e w' => e = .returned (.int .i64 ((L7 i).length : Nat)) ∧ w' = wr.drewN q) := fun q => by
                have := wait_any (i : Int) (wr.drewN q) (hide (HBi.out.itk.later (blw wr q)))
                rw [show Ik.waitN L7 (i : Int) = (L7 i).length by unfold Ik.waitN; rw [if_pos (Ik.isC_nat hi6), Int.toNat_natCast]] at this
                exact this
              clear hUi
              generalize (L7 i).length = mi at *
              have hfi : ¬ (6 : Int) < mi := by omega
              have hfb : decide ((6 : Int) < mi) = false := by simpa using hfi
              have hne : ((mi : Int) != (mi : Int)) = false := by simp
              go_wp2_with fail
              go_quiet ((go_at_call 10; exact Calls.quiet_of_same (HQW.out _)))
              go_wp2
              exact ⟨⟨i + 1, by omega, by go_num, HBi.out.later (blw _ _)⟩, by simp [intOf]; omega⟩
            · have hii : ¬ (i : Int) < 6 := by omega
              go_wp2
              exact ⟨⟨k + 1, _, _, _, _, by omega, by go_num, HBi.out⟩, by simp [intOf]; omega⟩
        · have HL4 : Hid (Ik.putL L ⟨ak, ac, asq, ait, asd, apr, aq, aid⟩ = L) := by show _ = _; unfold Ik.putL; rw [if_neg hp0]
          obtain ⟨ec, hec⟩ : ∃ ec, Ik.putC L ⟨ak, ac, asq, ait, asd, apr, aq, aid⟩ = ec + 1 := ⟨_, (Nat.succ_pred_eq_of_ne_zero hp0).symm⟩
          rw [hec]
          rw [HL4.out] at HB4
          clear hp0 hec HL4
          simp only [errC]
          go_wp2_with fail
          have hlen : ∀ c, c < 6 → ∃ a k, U c = .slice a (L c).length k := fun c hc => (HB4.out.wai.row c hc).form
          have HLEN := hide hlen
          clear hlen
          go_wp2_with fail
          go_loopw [14] (fun c wr => ∃ (i : Nat), i ≤ 6 ∧ c = .int .i64 i ∧ Both w wr p B V4 t L U L) (fun c _ => 6 - (intOf c).toNat)
          case atStart => exact ⟨0, Nat.zero_le _, rfl, HB4.out⟩
          case round =>
            obtain ⟨i, hi, rfl, hBi⟩ := hrel
            have HBi := hide hBi
            clear hBi
            by_cases hi6 : i < 6
            · have hii : (i : Int) < 6 := by omega
              have hat := HBi.out.wai.at hi6
              obtain ⟨ai, ci, hUi⟩ := HLEN.out i hi6
              rw [hUi] at hat
              have hf := HBi.out.itk.few i hi6
              have HQW : Hid (∀ q, Calls Tryd.prog 10 #[.pointer (some ⟨p, 0, none⟩), .int .i64 (i : Int)] (wr.drewN q) fun e w' => e = .returned (.int .i64 ((L i).length : Nat)) ∧ w' = wr.drewN q) := fun q => by
                have := wait_any (i : Int) (wr.drewN q) (hide (HBi.out.itk.later (blw wr q)))
                rw [show Ik.waitN L (i : Int) = (L i).length by unfold Ik.waitN; rw [if_pos (Ik.isC_nat hi6), Int.toNat_natCast]] at this
                exact this
              clear hUi
              generalize (L i).length = mi at *
              have hfi : ¬ (6 : Int) < mi := by omega
              have hfb : decide ((6 : Int) < mi) = false := by simpa using hfi
              have hne : ((mi : Int) != (mi : Int)) = false := by simp
              go_wp2_with fail
              go_quiet ((go_at_call 10; exact Calls.quiet_of_same (HQW.out _)))
              go_wp2
              exact ⟨⟨i + 1, by omega, by go_num, HBi.out.later (blw _ _)⟩, by simp [intOf]; omega⟩
            · have hii : ¬ (i : Int) < 6 := by omega
              go_wp2
              exact ⟨⟨k + 1, _, _, _, _, by omega, by go_num, HBi.out⟩, by simp [intOf]; omega⟩
      | false =>
        cases hkc : (kd.toList == [99, 108, 101, 97, 114]) with
        | true =>
          have HCL := hide (clear_any dc _ (hide HBb.out.itk))
          go_wp2_with fail
          generalize wv.alloc (.cells #[.string kd, .int .u8 ak, .int .i64 ac, .int .i64 asq, .int .i64 ait, .int .i64 asd, .int .i64 apr, .int .i64 aq, .int .i64 aid, .int .i64 dc] 32) = wb at *
          have hbl : wv.heap.size < wb.heap.size := lt_of_block HXb.out
          generalize wv.heap.size = b at *
          clear k0 k1 k2 k3 k4 k5 k6 k7 k8 k9 HBr
          refine HCL.out.mono ?_
          rintro e w4 ⟨rfl, V4, hI4, hs4⟩
          have HB4 := hide (HBb.out.goI hI4 (Ik.own_clear HBb.out.own _) hs4)
          have HX4 : Hid (w4.heap[b]? = some (.cells #[.string kd, .int .u8 ak, .int .i64 ac, .int .i64 asq, .int .i64 ait, .int .i64 asd, .int .i64 apr, .int .i64 aq, .int .i64 aid, .int .i64 dc] 32 (0, 0))) := (hs4.turned.block b hbl HNV.out).trans HXb.out
          clear hI4 hs4 HCL
          obtain ⟨k0, k1, k2, k3, k4, k5, k6, k7, k8, k9⟩ := box10 HX4.out
          cases hC : Ik.isC dc with
          | false =>
            have e1 : Ik.waitN L dc = 0 := by unfold Ik.waitN; rw [hC]; rfl
            have e2 : Ik.clearL L dc = L := by unfold Ik.clearL; rw [hC]; rfl
            rw [e2] at HB4
            rw [e1]
            have hdc : dc < 0 ∨ 6 ≤ dc := by simp [Ik.isC] at hC; omega
            clear e1 e2 hC
            simp only []
            rcases hdc with h | h
            · go_wp2
              exact ⟨⟨k + 1, _, _, _, _, by omega, by go_num, HB4.out⟩, by simp [intOf]; omega⟩
            · have h' : ¬ dc < 0 := by omega
              go_wp2
              exact ⟨⟨k + 1, _, _, _, _, by omega, by go_num, HB4.out⟩, by simp [intOf]; omega⟩
          | true =>
            obtain ⟨c, hc6, rfl⟩ := Ik.isC_lt hC
            have e1 : Ik.waitN L (c : Int) = (L c).length := by unfold Ik.waitN; rw [hC]; rfl
            have e2 : Ik.clearL L (c : Int) = Ik.upd L c [] := by unfold Ik.clearL; rw [hC]; rfl
            rw [e2] at HB4
            rw [e1]
            clear e1 e2 hC
            have hc0 : ¬ (c : Int) < 0 := by omega
            have hc5 : ¬ (6 : Int) ≤ c := by omega
            have hci : (c : Int) < 6 := by omega
            obtain ⟨aU, cU, hU⟩ := (HB4.out.wai.row c hc6).form
            have y0 := HB4.out.wai.at hc6
            have yf := HB4.out.wai.free c
            rw [hU] at y0
            have HSET := hide (HB4.out.wai.set (w2 := w4) hc6 ⟨rfl, rfl, rfl, Nat.le_refl _, fun _ _ _ => rfl⟩ (v' := .slice none 0 0) (l' := []) (.inl ⟨rfl, rfl⟩) (fun k h => by simp [Value.ownBlock] at h))
            have HB7 := hide (HB4.out.goW HSET.out.1 HSET.out.2)
            clear HSET hU HB4
            generalize (L c).length = m at *
            have hne : ((m : Int) != (m : Int)) = false := by simp
            simp only []
            go_wp2_with fail
            clear y0 yf k0 k1 k2 k3 k4 k5 k6 k7 k8 k9
            generalize w4.setCell ⟨B, c, none⟩ (.slice none 0 0) = w7 at *
            generalize Ik.upd L c [] = L7 at *
            generalize Ik.upd U c (.slice none 0 0) = U7 at *
            have hlen : ∀ c, c < 6 → ∃ a k, U7 c = .slice a (L7 c).length k := fun c hc => (HB7.out.wai.row c hc).form
            have HLEN := hide hlen
            clear hlen
            go_wp2_with fail
            go_loopw [14] (fun c wr => ∃ (i : Nat), i ≤ 6 ∧ c = .int .i64 i ∧ Both w wr p B V4 t L7 U7 L7) (fun c _ => 6 - (intOf c).toNat)
            case atStart => exact ⟨0, Nat.zero_le _, rfl, HB7.out⟩
            case round =>
              obtain ⟨i, hi, rfl, hBi⟩ := hrel
              have HBi := hide hBi
              clear hBi
              by_cases hi6 : i < 6
              · have hii : (i : Int) < 6 := by omega
                have hat := HBi.out.wai.at hi6
                obtain ⟨ai, ci, hUi⟩ := HLEN.out i hi6
                rw [hUi] at hat
                have hf := HBi.out.itk.few i hi6
                have HQW : Hid (∀ q, Calls Tryd.prog 10 #[.pointer (some ⟨p, 0, none⟩), .int .i64 (i : Int)] (wr.drewN q) fun e w' => e = .returned (.int .i64 ((L7 i).length : Nat)) ∧ w' = wr.drewN q) := fun q => by
                  have := wait_any (i : Int) (wr.drewN q) (hide (HBi.out.itk.later (blw wr q)))
                  rw [show Ik.waitN L7 (i : Int) = (L7 i).length by unfold Ik.waitN; rw [if_pos (Ik.isC_nat hi6), Int.toNat_natCast]] at this
                  exact this
                clear hUi
                generalize (L7 i).length = mi at *
                have hfi : ¬ (6 : Int) < mi := by omega
                have hfb : decide ((6 : Int) < mi) = false := by simpa using hfi
                have hne : ((mi : Int) != (mi : Int)) = false := by simp
                go_wp2_with fail
                go_quiet ((go_at_call 10; exact Calls.quiet_of_same (HQW.out _)))
                go_wp2
                exact ⟨⟨i + 1, by omega, by go_num, HBi.out.later (blw _ _)⟩, by simp [intOf]; omega⟩
              · have hii : ¬ (i : Int) < 6 := by omega
                go_wp2
                exact ⟨⟨k + 1, _, _, _, _, by omega, by go_num, HBi.out⟩, by simp [intOf]; omega⟩
        | false =>
          have HDR := hide (drain_any _ (hide HBb.out.itk))
          go_wp2_with fail
          generalize wv.alloc (.cells #[.string kd, .int .u8 ak, .int .i64 ac, .int .i64 asq, .int .i64 ait, .int .i64 asd, .int .i64 apr, .int .i64 aq, .int .i64 aid, .int .i64 dc] 32) = wb at *
          have hbl : wv.heap.size < wb.heap.size := lt_of_block HXb.out
          generalize wv.heap.size = b at *
          clear k0 k1 k2 k3 k4 k5 k6 k7 k8 k9 HBr
          refine HDR.out.mono ?_
          rintro e w4 ⟨d, V4, rfl, hd, hI4, hs4, ho4⟩
          have HB4 := hide (HBb.out.goI hI4 (Ik.own_dr HBb.out.own ht) hs4)
          have HOW := hide HBb.out.own
          obtain ⟨x, hx⟩ : ∃ x, x = Ik.out L t := ⟨_, rfl⟩
          have HX := hide hx
          rw [← hx] at hd
          have HDU : Hid (∀ j, d.ownBlock = some j → ¬ qown B U j ∧ ¬ j = w4.heap.size) := fun j hj => ⟨fun h => by
              have h1 := (hd.lt j hj).1
              have h2 := (HBb.out.wai.own_lt h).2
              omega, fun h => by
              have h1 := (hd.lt j hj).2
              omega⟩
          have hm12 : x.length ≤ 12 := by rw [hx]; exact Ik.ouN_len L t 6
          have HD4 := hide hd
          obtain ⟨ad, cd, hdf⟩ := row_form hd
          have hcs : ∀ j, j < x.length → ∃ g3, ad = some ⟨g3, 0, none⟩ := fun j hj => by
            obtain ⟨g3, cap3, e, _⟩ := row_some hd (by omega)
            rw [hdf] at e
            simp at e
            exact ⟨g3, e.1⟩
          have HCS := hide hcs
          subst hdf
          have HX4 : Hid (w4.heap[b]? = some (.cells #[.string kd, .int .u8 ak, .int .i64 ac, .int .i64 asq, .int .i64 ait, .int .i64 asd, .int .i64 apr, .int .i64 aq, .int .i64 aid, .int .i64 dc] 32 (0, 0))) := (hs4.turned.block b hbl HNV.out).trans HXb.out
          obtain ⟨m, hm⟩ : ∃ m, x.length = m := ⟨_, rfl⟩
          have HM := hide hm
          rw [hm] at hm12
          have HS4 : Hid (wb.heap.size ≤ w4.heap.size) := hs4.turned.size
          clear hd hI4 hs4 ho4 HDR hcs
          rw [hm] at HD4 HDU ⊢
          rw [hm] at HCS
          simp only []
          go_wp2_with fail
          have HZ := hide (heap_alloc_new w4 (.cells #[.int .i64 0, .int .i64 0, .int .i64 0, .int .i64 0, .int .i64 0, .int .i64 0] 38))
          have hbZ : Below w4.heap.size w4 (w4.alloc (.cells #[.int .i64 0, .int .i64 0, .int .i64 0, .int .i64 0, .int .i64 0, .int .i64 0] 38)) := (Below.refl _ _).alloc (Nat.le_refl _) _
          have HB5 := hide (HB4.out.later hbZ)
          have HD5 : Hid (World.ownsRow _ wb.heap.size 30 8 (.slice ad m cd) m (aflat x)) := row_turned HD4.out (Turned.of_below hbZ (fun _ => False)) (fun _ _ h => h)
          have HNY : Hid (¬ qown B U w4.heap.size ∧ ¬ qown p V4 w4.heap.size) := ⟨fun h => by have := (HB4.out.wai.own_lt h).2; omega, fun h => by have := (HB4.out.itk.own_lt h).2; omega⟩
          clear HB4 HD4 hbZ hx
          generalize w4.alloc (.cells #[.int .i64 0, .int .i64 0, .int .i64 0, .int .i64 0, .int .i64 0, .int .i64 0] 38) = w5 at *
          have hYlo : w.heap.size ≤ w4.heap.size := Nat.le_trans HBb.out.below.size HS4.out
          generalize w4.heap.size = Y at *
          clear HX4 w4
          go_loopw [12] (fun c wr => ∃ (j : Nat) (U' : Nat → Value), j ≤ m ∧ c = .int .i64 j ∧ Both w wr p B V4 (Ik.who t 1) (Ik.drL L t) U' (fun c => (L c).drop (Ik.filt c (x.take j)).length) ∧ (∀ k, qown B U' k → qown B U k) ∧ wr.ownsRow wb.heap.size 30 8 (.slice ad m cd) m (aflat x) ∧ wr.heap[Y]? = some (.cells (irow (fun c => (Ik.filt c (x.take j)).length)) 38 (0, 0))) (fun c _ => m - (intOf c).toNat)
          case atStart => exact ⟨0, U, Nat.zero_le _, rfl, HB5.out, fun _ h => h, HD5.out, HZ.out⟩
          case round =>
            obtain ⟨j, U', hj, rfl, hBj, hUj, hdj, hyj⟩ := hrel
            have HBj := hide hBj; have HUj := hide hUj; have HDj := hide hdj; have HYj := hide hyj
            clear hBj hUj hdj hyj HB5 HD5 HZ
            by_cases hjm : j < m
            · have hji : (j : Int) < m := by omega
              obtain ⟨g3, rfl⟩ := HCS.out j hjm
              have hjx : j < x.length := by rw [HM.out]; exact hjm
              obtain ⟨c, hc6, hce⟩ := Ik.out_client HOW.out ht (j := j) (by rw [← HX.out]; exact hjx)
              have hhd := Ik.out_head HOW.out ht hc6 (j := j) (by rw [← HX.out]; exact hjx) hce
              rw [← HX.out] at hce hhd
              have z0 := row_cells HDj.out (i := j) hjx 0 (by decide); have z1 := row_cells HDj.out (i := j) hjx 1 (by decide); have z2 := row_cells HDj.out (i := j) hjx 2 (by decide); have z3 := row_cells HDj.out (i := j) hjx 3 (by decide)
              have z4 := row_cells HDj.out (i := j) hjx 4 (by decide); have z5 := row_cells HDj.out (i := j) hjx 5 (by decide); have z6 := row_cells HDj.out (i := j) hjx 6 (by decide); have z7 := row_cells HDj.out (i := j) hjx 7 (by decide)
              have HFI := hide (Ik.filt_in hjx hce)
              have HFO : Hid (∀ c', c' ≠ c → Ik.filt c' (x.take (j + 1)) = Ik.filt c' (x.take j)) := fun c' hne => Ik.filt_off hjx (by rw [hce]; omega)
              obtain ⟨q, hq⟩ : ∃ q, (Ik.filt c (x.take j)).length = q := ⟨_, rfl⟩
              have HQ := hide hq
              have yat : wr.cell? ⟨Y, c, none⟩ = some (.int .i64 (q : Nat)) := by rw [cell_of_row _ _ _ _ _ _ HYj.out, irow_get _ hc6, hq]
              have yfr : wr.frozen? ⟨Y, c, none⟩ = false := by simp [World.frozen?, HYj.out]
              rw [hq] at hhd
              have hq2 : q < 2 := hhd.1
              have HHD := hide hhd.2
              have hoff := HBj.out.wai.row c hc6
              simp only [hq, hhd.2] at hoff
              have uat := HBj.out.wai.at hc6
              have ufr := HBj.out.wai.free c
              obtain ⟨g4, o4, cap4, hU4, hle4, hc4⟩ := hoff.cells 0 (by simp)
              have x0 := hc4 0 (by decide); have x1 := hc4 1 (by decide); have x2 := hc4 2 (by decide); have x3 := hc4 3 (by decide)
              have x4 := hc4 4 (by decide); have x5 := hc4 5 (by decide); have x6 := hc4 6 (by decide); have x7 := hc4 7 (by decide)
              rw [hU4] at hoff uat
              obtain ⟨_, htl⟩ := hoff.tail
              have hanth : anth (anth x j :: (L c).drop (q + 1)) 0 = anth x j := rfl
              rw [hanth] at x0 x1 x2 x3 x4 x5 x6 x7
              generalize anth x j = ax at *
              obtain ⟨bk, bc, bsq, bit, bsd, bpr, bq, bid⟩ := ax
              simp only [] at hce
              subst hce
              simp only [askC, Nat.zero_mul, Nat.add_zero, List.getElem?_cons_zero, List.getElem?_cons_succ] at x0 x1 x2 x3 x4 x5 x6 x7 z0 z1 z2 z3 z4 z5 z6 z7
              simp only [List.length_cons] at uat hle4
              have HTL := hide htl
              obtain ⟨r, hr⟩ : ∃ r, ((L c).drop (q + 1)).length = r := ⟨_, rfl⟩
              rw [hr] at uat hle4 HTL
              have HU4 := hide hU4
              have hYne : ¬ Y = B := fun e => HNY.out.1 (.inl e)
              have hBY : ¬ B = Y := fun e => HNY.out.1 (.inl e.symm)
              clear hoff hc4 htl hhd hq hanth hr hU4
              have hc0 : ¬ (c : Int) < 0 := by omega
              have hc5 : ¬ (6 : Int) ≤ c := by omega
              have hci : (c : Int) < 6 := by omega
              have hqi : ¬ (2 : Int) < (q : Int) + 1 := by omega
              have HNYj : Hid (¬ qown p V4 Y ∧ ¬ qown B U' Y) := ⟨HNY.out.2, fun h => HNY.out.1 (HUj.out Y h)⟩
              by_cases hcap : cap4 = 1
              · subst hcap
                obtain rfl : r = 0 := by omega
                rw [if_pos rfl, show 1 - 1 = 0 from rfl] at HTL
                go_wp2_with fail
                go_quiet (fail)
                go_wp2
                refine ⟨⟨j + 1, Ik.upd U' c (.slice (some ⟨g4, o4, none⟩) 0 0), by omega, by go_num, ?_, ?_, ?_, ?_⟩, by simp [intOf]; omega⟩
                · refine Both.same (keep_end (HBj.out.later (blw _ _)) hc6 _ _ ((HTL.out).turned (Turned.of_below (blw wr _) (fun _ => False)) (fun _ _ h => h)) (by rw [HU4.out]; rfl) HNYj.out hYlo _) (fun c' hc' => ?_)
                  by_cases e : c' = c
                  · subst e
                    rw [Ik.upd_same, HFI.out, List.length_append, HQ.out]
                    rfl
                  · rw [Ik.upd_other _ _ e, HFO.out c' e]
                · rintro k' (rfl | ⟨c', hc', hk'⟩)
                  · exact .inl rfl
                  · by_cases e : c' = c
                    · subst e
                      rw [Ik.upd_same] at hk'
                      exact HUj.out k' (.inr ⟨c', hc', by rw [HU4.out]; exact hk'⟩)
                    · rw [Ik.upd_other _ _ e] at hk'
                      exact HUj.out k' (.inr ⟨c', hc', hk'⟩)
                · refine row_turned (row_turned (row_turned HDj.out (Turned.of_below (blw wr _) (fun _ => False)) (fun _ _ h => h)) (Turned.setCell _ B c _) ?_) (Turned.setCell _ Y c _) ?_
                  · intro k' hk' e
                    exact (HDU.out k' hk').1 (.inl e)
                  · intro k' hk' e
                    exact (HDU.out k' hk').2 e
                · rw [show ((q : Int) + 1) = ((q + 1 : Nat) : Int) by omega]
                  refine (block_setCell (cur := irow (fun c => (Ik.filt c (x.take j)).length)) (e := 38) (fz := (0, 0)) ?_ c _).trans ?_
                  · rw [Below.heap_setCell _ _ _ _ (by simpa using hYne)]
                    exact HYj.out
                  · rw [irow_set _ hc6]
                    congr 3
                    funext c'
                    by_cases e : c' = c
                    · subst e
                      rw [Ik.upd_same, HFI.out, List.length_append, HQ.out]
                      rfl
                    · rw [Ik.upd_other _ _ e, HFO.out c' e]
              · rw [if_neg hcap] at HTL
                have hcap1 : (1 : Int) ≤ cap4 := by omega
                go_wp2_with fail
                go_quiet (fail)
                go_wp2
                refine ⟨⟨j + 1, Ik.upd U' c (.slice (some ⟨g4, o4 + 8, none⟩) r (cap4 - 1)), by omega, by go_num, ?_, ?_, ?_, ?_⟩, by simp [intOf]; omega⟩
                · refine Both.same (keep_end (HBj.out.later (blw _ _)) hc6 _ _ ((HTL.out).turned (Turned.of_below (blw wr _) (fun _ => False)) (fun _ _ h => h)) (by rw [HU4.out]; rfl) HNYj.out hYlo _) (fun c' hc' => ?_)
                  by_cases e : c' = c
                  · subst e
                    rw [Ik.upd_same, HFI.out, List.length_append, HQ.out]
                    rfl
                  · rw [Ik.upd_other _ _ e, HFO.out c' e]
                · rintro k' (rfl | ⟨c', hc', hk'⟩)
                  · exact .inl rfl
                  · by_cases e : c' = c
                    · subst e
                      rw [Ik.upd_same] at hk'
                      exact HUj.out k' (.inr ⟨c', hc', by rw [HU4.out]; exact hk'⟩)
                    · rw [Ik.upd_other _ _ e] at hk'
                      exact HUj.out k' (.inr ⟨c', hc', hk'⟩)
                · refine row_turned (row_turned (row_turned HDj.out (Turned.of_below (blw wr _) (fun _ => False)) (fun _ _ h => h)) (Turned.setCell _ B c _) ?_) (Turned.setCell _ Y c _) ?_
                  · intro k' hk' e
                    exact (HDU.out k' hk').1 (.inl e)
                  · intro k' hk' e
                    exact (HDU.out k' hk').2 e
                · rw [show ((q : Int) + 1) = ((q + 1 : Nat) : Int) by omega]
                  refine (block_setCell (cur := irow (fun c => (Ik.filt c (x.take j)).length)) (e := 38) (fz := (0, 0)) ?_ c _).trans ?_
                  · rw [Below.heap_setCell _ _ _ _ (by simpa using hYne)]
                    exact HYj.out
                  · rw [irow_set _ hc6]
                    congr 3
                    funext c'
                    by_cases e : c' = c
                    · subst e
                      rw [Ik.upd_same, HFI.out, List.length_append, HQ.out]
                      rfl
                    · rw [Ik.upd_other _ _ e, HFO.out c' e]
            · have hji : ¬ (j : Int) < m := by omega
              have HB7 : Hid (Both w wr p B V4 (Ik.who t 1) (Ik.drL L t) U' (Ik.drL L t)) := by
                refine Both.same HBj.out (fun c hc => ?_)
                show (L c).drop (Ik.filt c (x.take j)).length = _
                rw [show x.take j = x from List.take_of_length_le (by rw [HM.out]; omega), HX.out]
                exact Ik.out_left HOW.out ht hc
              obtain ⟨w7, hw7⟩ : ∃ w7, w7 = wr := ⟨_, rfl⟩
              subst hw7
              clear HBj HUj HDj HYj
              generalize Ik.drL L t = L7 at *
              generalize Ik.who t 1 = t7 at *
              have hlen : ∀ c, c < 6 → ∃ a k, U' c = .slice a (L7 c).length k := fun c hc => (HB7.out.wai.row c hc).form
              have HLEN := hide hlen
              clear hlen
              go_wp2_with fail
              go_loopw [14] (fun c wr => ∃ (i : Nat), i ≤ 6 ∧ c = .int .i64 i ∧ Both w wr p B V4 t7 L7 U' L7) (fun c _ => 6 - (intOf c).toNat)
              case atStart => exact ⟨0, Nat.zero_le _, rfl, HB7.out⟩
              case round =>
                obtain ⟨i, hi, rfl, hBi⟩ := hrel
                have HBi := hide hBi
                clear hBi
                by_cases hi6 : i < 6
                · have hii : (i : Int) < 6 := by omega
                  have hat := HBi.out.wai.at hi6
                  obtain ⟨ai, ci, hUi⟩ := HLEN.out i hi6
                  rw [hUi] at hat
                  have hf := HBi.out.itk.few i hi6
                  have HQW : Hid (∀ q, Calls Tryd.prog 10 #[.pointer (some ⟨p, 0, none⟩), .int .i64 (i : Int)] (wr.drewN q) fun e w' => e = .returned (.int .i64 ((L7 i).length : Nat)) ∧ w' = wr.drewN q) := fun q => by
                    have := wait_any (i : Int) (wr.drewN q) (hide (HBi.out.itk.later (blw wr q)))
                    rw [show Ik.waitN L7 (i : Int) = (L7 i).length by unfold Ik.waitN; rw [if_pos (Ik.isC_nat hi6), Int.toNat_natCast]] at this
                    exact this
                  clear hUi
                  generalize (L7 i).length = mi at *
                  have hfi : ¬ (6 : Int) < mi := by omega
                  have hfb : decide ((6 : Int) < mi) = false := by simpa using hfi
                  have hne : ((mi : Int) != (mi : Int)) = false := by simp
                  go_wp2_with fail
                  go_quiet ((go_at_call 10; exact Calls.quiet_of_same (HQW.out _)))
                  go_wp2
                  exact ⟨⟨i + 1, by omega, by go_num, HBi.out.later (blw _ _)⟩, by simp [intOf]; omega⟩
                · have hii : ¬ (i : Int) < 6 := by omega
                  go_wp2
                  exact ⟨⟨k + 1, _, _, _, _, by omega, by go_num, HBi.out⟩, by simp [intOf]; omega⟩
    · have hki : ¬ (k : Int) < n := by omega
      go_wp2
      go_ret
      exact ⟨rfl, HBr.out.below⟩
end
end Go.Proofs.YtfifmigmdiegdaaDoor
