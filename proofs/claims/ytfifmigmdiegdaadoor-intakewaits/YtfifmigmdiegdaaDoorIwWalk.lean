/- IntakeWaits: whoever waits behind others of its own is drained just then. -/
import Derived.Test.YtfifmigmdiegdaaDoorIkArg
namespace Go.Proofs.YtfifmigmdiegdaaDoor
open Go.RowKit
set_option maxRecDepth 100000
section
variable {T : Nat → Value}
/-- what is so while the law plays: the client's own wait, by number, from so many on -/
structure Wt (w W : World) (p cl : Nat) (a m : Nat) : Prop where
  ex : ∃ V t L, Itk W p p V t L ∧ Ik.Own L ∧ L cl = Ik.mine cl a m
  lo : w.heap.size ≤ p
  below : Below w.heap.size w W
theorem Wt.later {w W W' : World} {p cl a m : Nat} (h : Wt w W p cl a m) (hb : Below W.heap.size W W') : Wt w W' p cl a m := by
  obtain ⟨⟨V, t, L, h1, h2, h3⟩, h4, h5⟩ := h
  exact ⟨⟨V, t, L, h1.later hb, h2, h3⟩, h4, h5.trans (hb.mono h5.size)⟩
theorem wt_put (w W : World) (p cl k : Nat) (he : IEr w T) (h : Wt w W p cl 0 k) (hc : cl < 6) (hk : k < 6) : Calls Tryd.prog 8 #[.pointer (some ⟨p, 0, none⟩), askV (Ik.askM cl k)] W fun e W' => e = .returned .nilIface ∧ Wt w W' p cl 0 (k + 1) := by
  obtain ⟨⟨V, t, L, h1, h2, h3⟩, h4, h5⟩ := h
  obtain ⟨e1, e2⟩ := Ik.mine_put hc hk h3
  refine (put_any (T := T) (Ik.askM cl k) W (he.later h5) (hide h1)).mono ?_
  rintro e W' ⟨rfl, V', hI, hs⟩
  rw [e1]
  exact ⟨rfl, ⟨V', t, _, hI, Ik.own_put h2 _, e2⟩, h4, h5.trans (hs.below h1 h4)⟩
theorem wt_other (w W : World) (p cl a m : Nat) (x : Ask) (he : IEr w T) (h : Wt w W p cl a m) (hx : x.c ≠ (cl : Int)) : Calls Tryd.prog 8 #[.pointer (some ⟨p, 0, none⟩), askV x] W fun e W' => (∃ v, e = .returned v) ∧ Wt w W' p cl a m := by
  obtain ⟨⟨V, t, L, h1, h2, h3⟩, h4, h5⟩ := h
  refine (put_any (T := T) x W (he.later h5) (hide h1)).mono ?_
  rintro e W' ⟨rfl, V', hI, hs⟩
  exact ⟨⟨_, rfl⟩, ⟨V', t, _, hI, Ik.own_put h2 _, by rw [Ik.putL_other hx]; exact h3⟩, h4, h5.trans (hs.below h1 h4)⟩
theorem wt_wait (w W : World) (p cl a m : Nat) (h : Wt w W p cl a m) (hc : cl < 6) : Calls Tryd.prog 10 #[.pointer (some ⟨p, 0, none⟩), .int .i64 (cl : Int)] W fun e W' => e = .returned (.int .i64 (m : Int)) ∧ W' = W := by
  obtain ⟨⟨V, t, L, h1, h2, h3⟩, h4, h5⟩ := h
  refine (wait_any (cl : Int) W (hide h1)).mono ?_
  rintro e W' ⟨rfl, rfl⟩
  refine ⟨?_, rfl⟩
  rw [show Ik.waitN L (cl : Int) = m by unfold Ik.waitN; rw [if_pos (Ik.isC_nat hc), Int.toNat_natCast, h3, Ik.mine_len]]
/-- what a drain hands out: its row, and the client's own among it -/
structure Got (W : World) (base cl a m : Nat) (d : Value) (x : List Ask) : Prop where
  row : W.ownsRow base 30 8 d x.length (aflat x)
  own : Ik.filt cl x = Ik.mine cl a (min 2 m)
  few : x.length ≤ 12
theorem got_form {W : World} {base cl a m : Nat} {d : Value} {x : List Ask} (h : Got W base cl a m d x) : ∃ ad n c, d = .slice ad n c ∧ n = x.length ∧ ∀ j, j < n → ∃ g, ad = some ⟨g, 0, none⟩ ∧ W.cell? ⟨g, j * 8 + 1, none⟩ = some (.int .i64 (anth x j).c) ∧ W.cell? ⟨g, j * 8 + 7, none⟩ = some (.int .i64 (anth x j).id) := by
  rcases h.row.2 with ⟨rfl, h0⟩ | ⟨g, cap, cur, rfl, _, _, hle, _⟩
  · exact ⟨none, 0, 0, rfl, h0.symm, fun j hj => absurd hj (Nat.not_lt_zero j)⟩
  · refine ⟨_, _, _, rfl, rfl, fun j hj => ⟨g, rfl, ?_, ?_⟩⟩
    · rw [row_cells h.row hj 1 (by decide)]; rfl
    · rw [row_cells h.row hj 7 (by decide)]; rfl
theorem wt_drain (w W : World) (p cl a m : Nat) (h : Wt w W p cl a m) (hc : cl < 6) : Calls Tryd.prog 9 #[.pointer (some ⟨p, 0, none⟩)] W fun e W' => ∃ d x, e = .returned d ∧ Got W' W.heap.size cl a m d x ∧ Wt w W' p cl (a + min 2 m) (m - min 2 m) := by
  obtain ⟨⟨V, t, L, h1, h2, h3⟩, h4, h5⟩ := h
  refine (drain_any W (hide h1)).mono ?_
  rintro e W' ⟨d, V', rfl, hr, hI, hs, _⟩
  refine ⟨d, _, rfl, ⟨hr, ?_, Ik.ouN_len L t 6⟩, ⟨V', _, _, hI, Ik.own_dr h2 h1.turn, ?_⟩, h4, h5.trans (hs.below h1 h4)⟩
  · rw [Ik.filt_out h2 h1.turn hc, h3, Ik.mine_take]
  · rw [Ik.drL_at L h1.turn hc, h3, Ik.mine_drop]
set_option maxHeartbeats 2000000 in
theorem intakeWaits_any (a : Option Addr) (n cap : Nat) (client nn : Int) (l : List DAct) (w : World) (he : Hid (IEr w T)) (ha : Hid (ArgDos w a n l)) :
    Calls Tryd.prog 3 #[.slice a n cap, .int .i64 client, .int .i64 nn] w fun e w' => e = .returned (.bool true) ∧ Below w.heap.size w w' := by
  have HTK := hide (taken_any w he)
  by_cases hn : n ≤ 60
  case neg =>
    have c1 : (60 : Int) < n := by omega
    go_enter Tryd.func3, Tryd.ntmps3
    go_wp2_with fail
    refine HTK.out.mono ?_
    rintro e w1 ⟨rfl, hb1⟩
    simp only []
    go_wp2
    go_ret
    exact ⟨rfl, hb1⟩
  have c1 : ¬ (60 : Int) < n := by omega
  by_cases hc0 : client < 0
  · go_enter Tryd.func3, Tryd.ntmps3
    go_wp2_with fail
    refine HTK.out.mono ?_
    rintro e w1 ⟨rfl, hb1⟩
    simp only []
    go_wp2
    go_ret
    exact ⟨rfl, hb1⟩
  by_cases hc6 : 6 ≤ client
  · go_enter Tryd.func3, Tryd.ntmps3
    go_wp2_with fail
    refine HTK.out.mono ?_
    rintro e w1 ⟨rfl, hb1⟩
    simp only []
    go_wp2
    go_ret
    exact ⟨rfl, hb1⟩
  by_cases hn0 : nn < 0
  · go_enter Tryd.func3, Tryd.ntmps3
    go_wp2_with fail
    refine HTK.out.mono ?_
    rintro e w1 ⟨rfl, hb1⟩
    simp only []
    go_wp2
    go_ret
    exact ⟨rfl, hb1⟩
  by_cases hn6 : 6 ≤ nn
  · go_enter Tryd.func3, Tryd.ntmps3
    go_wp2_with fail
    refine HTK.out.mono ?_
    rintro e w1 ⟨rfl, hb1⟩
    simp only []
    go_wp2
    go_ret
    exact ⟨rfl, hb1⟩
  obtain ⟨cl, rfl⟩ : ∃ c : Nat, client = c := ⟨client.toNat, by omega⟩
  obtain ⟨N, rfl⟩ : ∃ c : Nat, nn = c := ⟨nn.toNat, by omega⟩
  have hcl : cl < 6 := by omega
  have hN : N < 6 := by omega
  have hcl0 : ¬ (cl : Int) < 0 := by omega
  have hcl6 : ¬ (6 : Int) ≤ cl := by omega
  have hN0 : ¬ (N : Int) < 0 := by omega
  have hN6 : ¬ (6 : Int) ≤ N := by omega
  clear hc0 hc6 hn0 hn6
  obtain ⟨hargn, hargs⟩ := ha.out
  have HARGN := hide hargn; have HARGS := hide hargs
  clear hargn hargs ha
  go_enter Tryd.func3, Tryd.ntmps3
  go_wp2_with fail
  refine HTK.out.mono ?_
  rintro e w1 ⟨rfl, hb1⟩
  have HB1 := hide hb1
  clear hb1 HTK
  simp only []
  go_wp2_with fail
  refine (new_any w1).mono ?_
  rintro e w2 ⟨rfl, hI2, hb2⟩
  have hlo : w.heap.size ≤ w1.heap.size := HB1.out.size
  have HB2 := hide (HB1.out.trans (hb2.mono hlo))
  generalize w1.heap.size = p at *
  have HW2 : Hid (Wt w w2 p cl 0 0) := ⟨⟨_, _, _, hI2, Ik.own_none, rfl⟩, hlo, HB2.out⟩
  clear hI2 hb2 HB1 HB2 hlo w1
  simp only []
  go_wp2_with fail
  go_loopw [9] (fun c wr => ∃ (k : Nat), k ≤ N + 1 ∧ c = .int .i64 k ∧ Wt w wr p cl 0 k) (fun c _ => N + 1 - (intOf c).toNat)
  case atStart => exact ⟨0, Nat.zero_le _, rfl, HW2.out⟩
  case round =>
    obtain ⟨k, hk, rfl, hW⟩ := hrel
    have HW := hide hW
    clear hW HW2
    by_cases hlt : k ≤ N
    · have hki : (k : Int) ≤ N := by omega
      have hw : IntKind.i64.wrap (1000 + (k : Int)) = 1000 + (k : Int) := IntWalk.i64_in _ (by omega)
      have HPT := hide (wt_put (T := T) w wr p cl k he.out HW.out hcl (by omega))
      unfold askV askA Ik.askM at HPT
      simp only [] at HPT
      go_wp2_with fail
      refine HPT.out.mono ?_
      rintro e w3 ⟨rfl, hW3⟩
      have HW3 := hide hW3
      clear hW3 HPT HW
      simp only []
      go_wp2
      exact ⟨⟨k + 1, by omega, by go_num, HW3.out⟩, by simp [intOf]; omega⟩
    · have hki : ¬ (k : Int) ≤ N := by omega
      obtain rfl : k = N + 1 := by omega
      obtain ⟨w0, hw0⟩ : ∃ w0, w0 = wr := ⟨_, rfl⟩
      subst hw0
      go_wp2_with fail
      go_loopw [10, 11, 12] (fun dr cm c wr => ∃ (k D C M : Nat), k ≤ n + 6 ∧ c = .int .i64 k ∧ dr = .int .i64 D ∧ cm = .int .i64 C ∧ D ≤ k ∧ k ≤ D + n ∧ C + M = N + 1 ∧ C = min (2 * D) (N + 1) ∧ Wt w wr p cl C M) (fun _ _ c _ => n + 6 - (intOf c).toNat)
      case atStart => exact ⟨0, 0, 0, N + 1, Nat.zero_le _, rfl, rfl, rfl, Nat.le_refl _, Nat.zero_le _, by omega, by omega, HW.out⟩
      case round =>
        obtain ⟨k, D, C, M, hk, rfl, rfl, rfl, hDk, hkD, hCM, hC, hW⟩ := hrel
        have HWr := hide hW; have HC := hide hC; have HCM := hide hCM
        have hC7 : C ≤ 6 := by omega
        have hD66 : D ≤ 66 := by omega
        clear hW HW hC hCM
        obtain ⟨wv, hwv⟩ : ∃ wv, wv = wr := ⟨_, rfl⟩
        subst hwv
        have HWv := HWr
        clear HWr
        have hnw : IntKind.i64.wrap ((n : Int) + 6) = (n : Int) + 6 := IntWalk.i64_in _ (by omega)
        by_cases hlt6 : k < n + 6
        · have hki6 : (k : Int) < n + 6 := by omega
          by_cases hlt : k < n
          · have hki2 : (k : Int) < n := by omega
            obtain ⟨g, rfl, hlg⟩ : ∃ g, a = some g ∧ DosAt w g l := by
              rcases HARGS.out with h | h
              · omega
              · exact h
            obtain ⟨k0, k1, k2, k3, k4, k5, k6, k7, k8, k9⟩ := (hlg.later HWv.out.below) k (by rw [HARGN.out]; exact hlt)
            clear hlg
            generalize dnth l k = A at *
            obtain ⟨kd, ⟨ak, ac, asq, ait, asd, apr, aq, aid⟩, dc⟩ := A
            simp only [] at k0 k1 k2 k3 k4 k5 k6 k7 k8 k9
            cases hkp : (kd.toList == [112, 117, 116]) with
            | true =>
              by_cases hac : ac = (cl : Int)
              · subst hac
                go_wp2
                exact ⟨⟨k + 1, D, C, M, by omega, by go_num, rfl, rfl, by omega, by omega, HCM.out, HC.out, HWv.out⟩, by simp [intOf]; omega⟩
              · have hacb : (ac != (cl : Int)) = true := by simp [hac]
                have HPO := hide (wt_other (T := T) w wv p cl C M ⟨ak, ac, asq, ait, asd, apr, aq, aid⟩ he.out HWv.out hac)
                unfold askV askA at HPO
                simp only [] at HPO
                go_wp2_with fail
                refine HPO.out.mono ?_
                rintro e w3 ⟨⟨v3, rfl⟩, hW3⟩
                have HW3 := hide hW3
                clear hW3 HPO HWv
                simp only []
                go_wp2
                exact ⟨⟨k + 1, D, C, M, by omega, by go_num, rfl, rfl, by omega, by omega, HCM.out, HC.out, HW3.out⟩, by simp [intOf]; omega⟩
            | false =>
              have HDRN := hide (wt_drain w wv p cl C M HWv.out hcl)
              go_wp2_with fail
              refine HDRN.out.mono ?_
              rintro e w3 ⟨d, x, rfl, hG, hW3⟩
              have HW3 := hide hW3; have HG := hide hG
              obtain ⟨ad, m, cc, hd, hm, hcs⟩ := got_form hG
              have HM := hide hm; have HCS := hide hcs
              have hm12 : m ≤ 12 := by rw [hm]; exact hG.few
              clear hW3 hG HDRN HWv hm hcs
              subst hd
              simp only []
              go_wp2_with fail
              go_loopw [11, 14, 15] (fun cm mi c wr => ∃ (j q : Nat), j ≤ m ∧ q ≤ j ∧ c = .int .i64 j ∧ mi = .int .i64 q ∧ cm = .int .i64 ((C + q : Nat) : Int) ∧ q = (Ik.filt cl (x.take j)).length ∧ wr = w3) (fun _ _ c _ => m - (intOf c).toNat)
              case atStart => exact ⟨0, 0, Nat.zero_le _, Nat.le_refl _, rfl, rfl, rfl, rfl, rfl⟩
              case round =>
                obtain ⟨j, q, hj, hqj, rfl, rfl, rfl, hq, hwq⟩ := hrel
                subst wr
                have HQ := hide hq
                clear hq
                by_cases hjm : j < m
                · have hji : (j : Int) < m := by omega
                  obtain ⟨g3, rfl, y1, y7⟩ := HCS.out j hjm
                  have hjx : j < x.length := by rw [← HM.out]; exact hjm
                  by_cases hcc : (anth x j).c = (cl : Int)
                  · have hid : (anth x j).id = 1000 + (C : Int) + q := by
                      obtain ⟨f1, f2⟩ := Ik.filt_at hjx hcc
                      rw [← HQ.out, HG.out.own] at f1 f2
                      rw [Ik.mine_len] at f2
                      rw [Ik.mine_get cl _ _ _ f2] at f1
                      rw [← f1]
                      show 1000 + ((C + q : Nat) : Int) = _
                      omega
                    have HQ2 : Hid (q + 1 = (Ik.filt cl (x.take (j + 1))).length) := by
                      show _ = _
                      rw [Ik.filt_in hjx hcc, List.length_append, ← HQ.out]; rfl
                    rw [hcc] at y1
                    rw [hid] at y7
                    clear hid hcc
                    go_wp2
                    exact ⟨⟨j + 1, q + 1, by omega, by omega, by go_num, by go_num, by go_num, HQ2.out, by first | rfl | trivial⟩, by simp [intOf]; omega⟩
                  · have HQ2 : Hid (q = (Ik.filt cl (x.take (j + 1))).length) := by
                      show _ = _
                      rw [Ik.filt_off hjx hcc]; exact HQ.out
                    have hcb : ((anth x j).c != (cl : Int)) = true := by simp [hcc]
                    generalize (anth x j).c = xc at *
                    go_wp2
                    exact ⟨⟨j + 1, q, by omega, by omega, by go_num, rfl, rfl, HQ2.out, by first | rfl | trivial⟩, by simp [intOf]; omega⟩
                · have hji : ¬ (j : Int) < m := by omega
                  have hq2 : q = min 2 M := by
                    rw [HQ.out, show x.take j = x from List.take_of_length_le (by rw [← HM.out]; omega), HG.out.own, Ik.mine_len]
                  have hCM0 := HCM.out; have hC0 := HC.out
                  have HCM2 : Hid (C + q + (M - q) = N + 1) := by show _ = _; omega
                  have HW4 : Hid (Wt w w3 p cl (C + q) (M - q)) := by rw [hq2]; exact HW3.out
                  have HCC : Hid (C + q = min (2 * (D + 1)) (N + 1)) := by show _ = _; omega
                  clear HQ HCS HM HG HW3
                  have hDn : D ≤ 66 := by omega
                  have w1' : IntKind.i64.wrap ((D : Int) + 1 - 1) = (D : Int) := by rw [show (D : Int) + 1 - 1 = D by omega]; exact IntWalk.i64_in _ (by omega)
                  rcases (show (2 * D + 2 < N + 1 ∧ q = 2) ∨ (2 * D + 2 ≥ N + 1 ∧ 2 * D ≤ N + 1 ∧ q + 2 * D = N + 1) ∨ (N + 1 < 2 * D ∧ q = 0) by omega) with ⟨t1, t2⟩ | ⟨t1, t2, t3⟩ | ⟨t1, t2⟩
                  · subst t2
                    clear hCM0 hC0 hq2
                    have t1i : (2 : Int) < (N : Int) + 1 - 2 * D := by omega
                    go_wp2
                    refine ⟨⟨k + 1, D + 1, C + 2, M - 2, by omega, by go_num, by go_num, by first | rfl | go_num, by omega, by omega, HCM2.out, HCC.out, HW4.out⟩, by simp [intOf]; omega⟩
                  · clear hCM0 hC0 hq2
                    have t1i : ¬ (2 : Int) < (N : Int) + 1 - 2 * D := by omega
                    have t2i : ¬ (N : Int) + 1 - 2 * D < 0 := by omega
                    have t3i : (q : Int) = (N : Int) + 1 - 2 * D := by omega
                    have t4 : ((q : Int) != (N : Int) + 1 - 2 * D) = false := by simp [t3i]
                    have T3 := hide t3i
                    clear t3i
                    go_wp2
                    refine ⟨⟨k + 1, D + 1, C + q, M - q, by omega, by go_num, by go_num, by first | rfl | go_num, by omega, by omega, HCM2.out, HCC.out, HW4.out⟩, by simp [intOf]; omega⟩
                  · subst t2
                    clear hCM0 hC0 hq2
                    have t1i : ¬ (2 : Int) < (N : Int) + 1 - 2 * D := by omega
                    have t2i : (N : Int) + 1 - 2 * D < 0 := by omega
                    go_wp2
                    refine ⟨⟨k + 1, D + 1, C + 0, M - 0, by omega, by go_num, by go_num, by first | rfl | go_num, by omega, by omega, HCM2.out, HCC.out, HW4.out⟩, by simp [intOf]; omega⟩
          · have hki2 : ¬ (k : Int) < n := by omega
            have HDRN := hide (wt_drain w wv p cl C M HWv.out hcl)
            go_wp2_with fail
            refine HDRN.out.mono ?_
            rintro e w3 ⟨d, x, rfl, hG, hW3⟩
            have HW3 := hide hW3; have HG := hide hG
            obtain ⟨ad, m, cc, hd, hm, hcs⟩ := got_form hG
            have HM := hide hm; have HCS := hide hcs
            have hm12 : m ≤ 12 := by rw [hm]; exact hG.few
            clear hW3 hG HDRN HWv hm hcs
            subst hd
            simp only []
            go_wp2_with fail
            go_loopw [11, 14, 15] (fun cm mi c wr => ∃ (j q : Nat), j ≤ m ∧ q ≤ j ∧ c = .int .i64 j ∧ mi = .int .i64 q ∧ cm = .int .i64 ((C + q : Nat) : Int) ∧ q = (Ik.filt cl (x.take j)).length ∧ wr = w3) (fun _ _ c _ => m - (intOf c).toNat)
            case atStart => exact ⟨0, 0, Nat.zero_le _, Nat.le_refl _, rfl, rfl, rfl, rfl, rfl⟩
            case round =>
              obtain ⟨j, q, hj, hqj, rfl, rfl, rfl, hq, hwq⟩ := hrel
              subst wr
              have HQ := hide hq
              clear hq
              by_cases hjm : j < m
              · have hji : (j : Int) < m := by omega
                obtain ⟨g3, rfl, y1, y7⟩ := HCS.out j hjm
                have hjx : j < x.length := by rw [← HM.out]; exact hjm
                by_cases hcc : (anth x j).c = (cl : Int)
                · have hid : (anth x j).id = 1000 + (C : Int) + q := by
                    obtain ⟨f1, f2⟩ := Ik.filt_at hjx hcc
                    rw [← HQ.out, HG.out.own] at f1 f2
                    rw [Ik.mine_len] at f2
                    rw [Ik.mine_get cl _ _ _ f2] at f1
                    rw [← f1]
                    show 1000 + ((C + q : Nat) : Int) = _
                    omega
                  have HQ2 : Hid (q + 1 = (Ik.filt cl (x.take (j + 1))).length) := by
                    show _ = _
                    rw [Ik.filt_in hjx hcc, List.length_append, ← HQ.out]; rfl
                  rw [hcc] at y1
                  rw [hid] at y7
                  clear hid hcc
                  go_wp2
                  exact ⟨⟨j + 1, q + 1, by omega, by omega, by go_num, by go_num, by go_num, HQ2.out, by first | rfl | trivial⟩, by simp [intOf]; omega⟩
                · have HQ2 : Hid (q = (Ik.filt cl (x.take (j + 1))).length) := by
                    show _ = _
                    rw [Ik.filt_off hjx hcc]; exact HQ.out
                  have hcb : ((anth x j).c != (cl : Int)) = true := by simp [hcc]
                  generalize (anth x j).c = xc at *
                  go_wp2
                  exact ⟨⟨j + 1, q, by omega, by omega, by go_num, rfl, rfl, HQ2.out, by first | rfl | trivial⟩, by simp [intOf]; omega⟩
              · have hji : ¬ (j : Int) < m := by omega
                have hq2 : q = min 2 M := by
                  rw [HQ.out, show x.take j = x from List.take_of_length_le (by rw [← HM.out]; omega), HG.out.own, Ik.mine_len]
                have hCM0 := HCM.out; have hC0 := HC.out
                have HCM2 : Hid (C + q + (M - q) = N + 1) := by show _ = _; omega
                have HW4 : Hid (Wt w w3 p cl (C + q) (M - q)) := by rw [hq2]; exact HW3.out
                have HCC : Hid (C + q = min (2 * (D + 1)) (N + 1)) := by show _ = _; omega
                clear HQ HCS HM HG HW3
                have hDn : D ≤ 66 := by omega
                have w1' : IntKind.i64.wrap ((D : Int) + 1 - 1) = (D : Int) := by rw [show (D : Int) + 1 - 1 = D by omega]; exact IntWalk.i64_in _ (by omega)
                rcases (show (2 * D + 2 < N + 1 ∧ q = 2) ∨ (2 * D + 2 ≥ N + 1 ∧ 2 * D ≤ N + 1 ∧ q + 2 * D = N + 1) ∨ (N + 1 < 2 * D ∧ q = 0) by omega) with ⟨t1, t2⟩ | ⟨t1, t2, t3⟩ | ⟨t1, t2⟩
                · subst t2
                  clear hCM0 hC0 hq2
                  have t1i : (2 : Int) < (N : Int) + 1 - 2 * D := by omega
                  go_wp2
                  refine ⟨⟨k + 1, D + 1, C + 2, M - 2, by omega, by go_num, by go_num, by first | rfl | go_num, by omega, by omega, HCM2.out, HCC.out, HW4.out⟩, by simp [intOf]; omega⟩
                · clear hCM0 hC0 hq2
                  have t1i : ¬ (2 : Int) < (N : Int) + 1 - 2 * D := by omega
                  have t2i : ¬ (N : Int) + 1 - 2 * D < 0 := by omega
                  have t3i : (q : Int) = (N : Int) + 1 - 2 * D := by omega
                  have t4 : ((q : Int) != (N : Int) + 1 - 2 * D) = false := by simp [t3i]
                  have T3 := hide t3i
                  clear t3i
                  go_wp2
                  refine ⟨⟨k + 1, D + 1, C + q, M - q, by omega, by go_num, by go_num, by first | rfl | go_num, by omega, by omega, HCM2.out, HCC.out, HW4.out⟩, by simp [intOf]; omega⟩
                · subst t2
                  clear hCM0 hC0 hq2
                  have t1i : ¬ (2 : Int) < (N : Int) + 1 - 2 * D := by omega
                  have t2i : (N : Int) + 1 - 2 * D < 0 := by omega
                  go_wp2
                  refine ⟨⟨k + 1, D + 1, C + 0, M - 0, by omega, by go_num, by go_num, by first | rfl | go_num, by omega, by omega, HCM2.out, HCC.out, HW4.out⟩, by simp [intOf]; omega⟩
        · have hki6 : ¬ (k : Int) < n + 6 := by omega
          have hCM0 := HCM.out; have hC0 := HC.out
          have hC2 : C = N + 1 := by omega
          have hM2 : M = 0 := by omega
          clear hCM0 hC0 HCM HC
          subst hM2
          have HWT := hide (wt_wait w wv p cl C 0 HWv.out hcl)
          subst hC2
          have hCe : ((N + 1 : Nat) : Int) = (N : Int) + 1 := by omega
          rw [hCe]
          go_wp2_with fail
          refine HWT.out.mono ?_
          rintro e w3 ⟨rfl, rfl⟩
          simp only []
          go_wp2
          go_ret
          exact ⟨rfl, HWv.out.below⟩
end
end Go.Proofs.YtfifmigmdiegdaaDoor
