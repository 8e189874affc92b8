/- The law TapeReads, for every text. -/
import Derived.Test.YtnnbbdfocnjhpaaDoorTaped
namespace Go.Proofs.YtnnbbdfocnjhpaaDoor
open Go.RowKit
set_option maxRecDepth 100000

theorem Strs.form {w : World} {base : Nat} {v : Value} {ts : List (List UInt8)} (h : Strs w base v ts) : (ts = [] ∧ v = .slice none 0 0) ∨ ∃ g cap, v = .slice (some ⟨g, 0, none⟩) ts.length cap ∧ ts.length ≤ cap := by
  rcases h.2 with ⟨rfl, h0⟩ | ⟨g, cap, cur, rfl, _, _, hc, _⟩
  · exact .inl ⟨List.eq_nil_of_length_eq_zero h0, rfl⟩
  · exact .inr ⟨g, cap, rfl, hc⟩
theorem Strs.take {w : World} {base g len cap : Nat} {ts : List (List UInt8)} (h : Strs w base (.slice (some ⟨g, 0, none⟩) len cap) ts) (n : Nat) (hn : n ≤ ts.length) : Strs w base (.slice (some ⟨g, 0, none⟩) n cap) (ts.take n) := by
  obtain ⟨h1, h2⟩ := h
  rcases h2 with ⟨h2, _⟩ | ⟨g', cap', cur, h2, hb, hg, hc, hm, hs, ht⟩
  · cases h2
  · simp only [Value.slice.injEq, Option.some.injEq, Addr.mk.injEq, and_true] at h2
    obtain ⟨rfl, rfl, rfl⟩ := h2
    have hl : (ts.take n).length = n := by simp; omega
    refine ⟨by simp, .inr ⟨g, cap, cur, by rw [hl], hb, hg, by rw [hl]; omega, hm, hs, ?_⟩⟩
    rw [hl, Nat.mul_one, List.map_take, ← ht, List.take_take]
    congr 1
    omega

theorem Strs.form' {w : World} {base : Nat} {v : Value} {ts : List (List UInt8)} (h : Strs w base v ts) : ∃ a cap, v = .slice a ts.length cap ∧ (0 < ts.length → ∃ g, a = some ⟨g, 0, none⟩) := by
  rcases h.form with ⟨rfl, rfl⟩ | ⟨g, cap, rfl, _⟩
  · exact ⟨none, 0, rfl, fun h => absurd h (Nat.lt_irrefl 0)⟩
  · exact ⟨_, _, rfl, fun _ => ⟨g, rfl⟩⟩
theorem Disk.mono {w : World} {base base' p : Nat} {l : List UInt8} {cut : Bool} {left : Int} (h : Disk w base p l cut left) (hb : base' ≤ base) : Disk w base' p l cut left := by
  obtain ⟨h1, v, h2, g, cap, cur, fz, h3, h4, h5⟩ := h
  exact ⟨by omega, v, h2, g, cap, cur, fz, h3, by omega, h5⟩
theorem recs_take_succ (ts : List (List UInt8)) (k : Nat) (h : k < ts.length) : Tp.recs (ts.take (k + 1)) = Tp.recs (ts.take k) ++ Tp.rec (ts.getD k []) := by
  rw [List.take_succ_eq_append_getElem h, Tp.recs_snoc, List.getD_eq_getElem?_getD, List.getElem?_eq_getElem h]
  rfl
theorem recs_take_le (ts : List (List UInt8)) (k : Nat) : (Tp.recs (ts.take k)).length ≤ (Tp.recs ts).length := by
  conv => rhs; rw [← List.take_append_drop k ts, Tp.recs_append, List.length_append]
  omega

theorem recs_count : ∀ ts : List (List UInt8), 12 * ts.length ≤ (Tp.recs ts).length
  | [] => Nat.le_refl _
  | t :: ts => by
    have := recs_count ts
    rw [Tp.recs_cons, List.length_append, Tp.rec_length, List.length_cons]
    omega

set_option maxHeartbeats 400000 in
theorem reads_out (b more : ByteArray) (T : TypeId) (x : Value) (w : World) (h8 : w.cell? ⟨8, 0, none⟩ = some (.iface T x)) (h : (3000 : Int) < b.size ∨ ¬ (3000 : Int) < b.size ∧ (300 : Int) < more.size) :
    Calls Tryd.prog 9 #[.string b, .string more] w fun e w' => e = .returned (.bool true) ∧ Below w.heap.size w w' := by
  rcases h with h | ⟨h, h'⟩
  all_goals
    go_enter Tryd.func9, Tryd.ntmps9
    go_wp2_with fail
    refine (taped_any T x w h8).mono ?_
    rintro e w1 ⟨rfl, hb1⟩
    have HB1 := hide hb1
    clear hb1
    go_wp2
    go_ret
    exact ⟨rfl, HB1.out⟩

set_option maxHeartbeats 400000 in
theorem reads_main (b more : ByteArray) (T : TypeId) (x : Value) (w : World) (h8 : w.cell? ⟨8, 0, none⟩ = some (.iface T x)) (h1 : b.size ≤ 3000) (h2 : more.size ≤ 300) :
    Calls Tryd.prog 9 #[.string b, .string more] w fun e w' => e = .returned (.bool true) ∧ Below w.heap.size w w' := by
  have h1' : ¬ (3000 : Int) < b.size := by omega
  have h2' : ¬ (300 : Int) < more.size := by omega
  have h8l : 8 < w.heap.size := World.block_lt_of_cell? _ _ h8
  go_enter Tryd.func9, Tryd.ntmps9
  go_wp2_with fail
  refine (taped_any T x w h8).mono ?_
  rintro e w1 ⟨rfl, hb1⟩
  have HB1 := hide hb1
  clear hb1
  simp only []
  go_wp2_with fail
  refine (read_any b w1 (by omega)).mono ?_
  rintro e w2 ⟨v, ts, r, rfl, hrd, hst, hb2⟩
  have HB2 : Hid (Below w.heap.size w w2) := HB1.out.trans (hb2.mono HB1.out.size)
  have HST := hide (hst.mono HB1.out.size)
  have HRD := hide hrd
  have hq : (Tp.recs ts).length ≤ b.size := by
    have := congrArg List.length hrd.1
    rw [List.length_append, size_list] at this
    omega
  have htl := recs_count ts
  clear hb2 hst hrd
  generalize hn : (Tp.recs ts).length = n at *
  have Hn := hide hn
  clear hn
  have hq' : ¬ (b.size : Int) < n := by omega
  simp only []
  go_wp2_with fail
  refine (newDisk_any ⟨#[]⟩ w2 (by decide)).mono ?_
  rintro e w3 ⟨p, rfl, hd3, hb3⟩
  have HB3 : Hid (Below w.heap.size w w3) := HB2.out.trans (hb3.mono HB2.out.size)
  have HD3 : Hid (Disk w3 w.heap.size p [] false 0) := hd3.mono HB2.out.size
  have HST3 := hide (HST.out.keeps (Keeps.below hb3))
  clear hd3 hb3 HST
  obtain ⟨a, cap, hv, ha⟩ := HST3.out.form'
  subst hv
  have HA := hide ha
  clear ha
  simp only []
  go_wp2
  go_loopw [10] (fun i wr => ∃ k : Nat, k ≤ ts.length ∧ i = .int .i64 k ∧ Disk wr w.heap.size p (Tp.recs (ts.take k)) false 0 ∧ Strs wr w.heap.size (.slice a ts.length cap) ts ∧ Below w.heap.size w wr) (fun i _ => ts.length - (intOf i).toNat)
  case atStart => exact ⟨0, Nat.zero_le _, rfl, HD3.out, HST3.out, HB3.out⟩
  case round =>
    obtain ⟨k, hk, rfl, hd, hst, hbw⟩ := hrel
    have HD := hide hd; have HS := hide hst; have HB := hide hbw
    clear hd hst hbw
    by_cases hlt : k < ts.length
    · have hki : (k : Int) < ts.length := by omega
      obtain ⟨g, hg⟩ := HA.out (by omega)
      subst hg
      have hcell := HS.out.cells k hlt
      have hsucc := recs_take_succ ts k hlt
      have hle := recs_take_le ts (k + 1)
      have hle0 := recs_take_le ts k
      rw [hsucc, List.length_append, Tp.rec_length, Hn.out] at hle
      have hts : (ts.getD k []).length ≤ 10000 := by omega
      have Hsucc := hide hsucc
      clear hsucc
      generalize hz : ts.getD k [] = z at *
      have hzs : (ba z).size = z.length := ba_size z
      go_wp2_with fail
      refine (append_free w.heap.size p _ (ba z) 0 wr T x HD.out (by omega) (by omega) (cell_later HB.out h8) h8l HB.out.size).mono ?_
      rintro e w5 ⟨rfl, hd5, hk5, hb5⟩
      rw [ba_list, ← Hsucc.out] at hd5
      have HD5 := hide hd5; have HS5 := hide (HS.out.keeps hk5); have HB5 := hide (HB.out.trans hb5)
      clear hd5 hk5 hb5
      simp only []
      go_wp2
      exact ⟨⟨k + 1, by omega, by go_num, HD5.out, HS5.out, HB5.out⟩, by simp [intOf]; omega⟩
    · have hki : ¬ (k : Int) < ts.length := by omega
      have hkk : k = ts.length := by omega
      have HDD : Hid (Disk wr w.heap.size p (Tp.recs ts) false 0) := by
        have := HD.out
        rw [hkk, List.take_length] at this
        exact this
      clear HD
      have hbn : b.extract 0 n = ba (Tp.recs ts) := by
        apply ByteArray.ext
        apply Array.ext'
        rw [data_extract, List.drop_zero, HRD.out.1, ← Hn.out, List.take_left, ba_list]
      have hbr : (b.extract n b.size).data.toList = r := by
        rw [data_extract, List.take_of_length_le (by rw [size_list]; exact Nat.le_refl _)]
        conv => lhs; rw [HRD.out.1, ← Hn.out, List.drop_left]
      have Hbr := hide hbr
      have Hbn := hide hbn
      clear hbr hbn
      have HBY : Hid (∀ m, Calls Tryd.prog 37 #[.pointer (some ⟨p, 0, none⟩)] (wr.drewN m) fun e w' => e = .returned (.string (b.extract 0 n)) ∧ w' = wr.drewN m) := fun m => by
        have := bytes_any w.heap.size p (Tp.recs ts) false 0 _ (HDD.out.below (below_drewN m))
        rw [← Hbn.out] at this
        exact this
      go_wp2
      go_quiet ((go_at_call 37; exact Calls.quiet_of_same (HBY.out _)))
      have HB5 : Hid (Below w.heap.size w (wr.drewN nq)) := HB.out.trans ((below_drewN nq).mono HB.out.size)
      have HS5 := hide (HS.out.keeps (Keeps.below (below_drewN (w := wr) nq)))
      generalize wr.drewN nq = w5 at *
      go_wp2_with fail
      refine (read_any (b.extract n b.size) w5 (by simp; omega)).mono ?_
      rintro e w6 ⟨v6, ts6, r6, rfl, hrd6, hst6, hb6⟩
      rw [Hbr.out] at hrd6
      obtain ⟨rfl, rfl⟩ : ts6 = [] ∧ r6 = r := Tp.IsRead.unique (ts := []) hrd6 (fun _ h => absurd h List.not_mem_nil) HRD.out.2.1
      have HB6 := hide (HB5.out.trans (hb6.mono HB5.out.size))
      have HS6 := hide (HS5.out.keeps (Keeps.below hb6))
      obtain ⟨a6, c6, hv6, _⟩ := hst6.form'
      subst hv6
      clear hrd6 hst6 hb6
      rw [show (Tp.recs []).length = 0 from rfl, show ([] : List (List UInt8)).length = 0 from rfl]
      simp only []
      have hjoin : (b.extract 0 n ++ more).data.toList = Tp.recs ts ++ more.data.toList := by
        rw [Hbn.out]
        simp [ba]
      have hjs : (b.extract 0 n ++ more).size ≤ 1000000 := by rw [← size_list, hjoin, List.length_append, size_list, Hn.out]; omega
      have Hjoin := hide hjoin; have Hjs := hide hjs
      clear hjoin hjs
      have hz1 : (b.extract 0 n).size = n := by simp; omega
      go_wp2_with fail
      refine (read_any _ w6 Hjs.out).mono ?_
      rintro e w7 ⟨v7, ts7, r7, rfl, hrd7, hst7, hb7⟩
      rw [Hjoin.out] at hrd7
      obtain ⟨us, rfl, _⟩ := hrd7.prefix HRD.out.2.2
      have HB7 := hide (HB6.out.trans (hb7.mono HB6.out.size))
      have HS7 := hide (HS6.out.keeps (Keeps.below hb7))
      have HY7 := hide hst7
      have hkn : (n : Int) ≤ ((Tp.recs (ts ++ us)).length : Int) := by rw [Tp.recs_append, List.length_append, Hn.out]; omega
      have hll : (ts.length : Int) ≤ ((ts ++ us).length : Int) := by rw [List.length_append]; omega
      have hll' : ts.length ≤ (ts ++ us).length := by rw [List.length_append]; omega
      have hcut : (ts ++ us).take ts.length = ts := List.take_left
      have Hcut := hide hcut
      clear hrd7 hb7 hcut
      generalize (Tp.recs (ts ++ us)).length = kk at *
      rcases hst7.form with ⟨hnil, hv7⟩ | ⟨g7, cap7, hv7, hc7⟩
      · obtain ⟨hts0, hus0⟩ := List.append_eq_nil_iff.1 hnil
        have hl0 : ts.length = 0 := by rw [hts0]; rfl
        have hL0 : (ts ++ us).length = 0 := by rw [hnil]; rfl
        clear hnil hts0 hus0 hst7 HY7
        subst hv7
        generalize hL : (ts ++ us).length = L at *
        subst hL0
        simp only []
        go_wp2_with fail
        refine (texts_nil _ _ 0 cap none a w7 rfl rfl).mono ?_
        rintro e w8 ⟨rfl, m8, rfl⟩
        have HB8 := hide (HB7.out.trans ((below_drewN m8).mono HB7.out.size))
        simp only []
        go_wp2
        go_ret
        exact ⟨rfl, HB8.out⟩
      · subst hv7
        have hlc : ts.length ≤ cap7 := by omega
        clear hst7
        generalize hL : (ts ++ us).length = L at *
        have HY8 := hide (HY7.out.take ts.length (by omega))
        rw [Hcut.out] at HY8
        simp only []
        go_wp2_with fail
        refine (texts_same _ _ _ _ ts w7 (by omega) HY8.out HS7.out).mono ?_
        rintro e w8 ⟨rfl, m8, rfl⟩
        have HB8 := hide (HB7.out.trans ((below_drewN m8).mono HB7.out.size))
        simp only []
        go_wp2
        go_ret
        exact ⟨rfl, HB8.out⟩

theorem reads_any (b more : ByteArray) (T : TypeId) (x : Value) (w : World) (h8 : w.cell? ⟨8, 0, none⟩ = some (.iface T x)) :
    Calls Tryd.prog 9 #[.string b, .string more] w fun e w' => e = .returned (.bool true) ∧ Below w.heap.size w w' := by
  by_cases h1 : (3000 : Int) < b.size
  · exact reads_out b more T x w h8 (.inl h1)
  · by_cases h2 : (300 : Int) < more.size
    · exact reads_out b more T x w h8 (.inr ⟨h1, h2⟩)
    · exact reads_main b more T x w h8 (by omega) (by omega)
end Go.Proofs.YtnnbbdfocnjhpaaDoor
