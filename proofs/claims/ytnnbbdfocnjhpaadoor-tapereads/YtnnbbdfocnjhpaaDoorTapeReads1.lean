/- Read of bytes: the records that they begin with. -/
import Derived.Test.YtnnbbdfocnjhpaaDoorTapeRead
import Derived.Test.YtnnbbdfocnjhpaaDoorClone
namespace Go.Proofs.YtnnbbdfocnjhpaaDoor
open Go.RowKit
set_option maxRecDepth 100000

theorem info9 : ∃ i, Tryd.prog.info? 9 = some i ∧ i.zero = some (.string ⟨#[]⟩) ∧ i.size = 1 ∧ i.bytes = 16 := ⟨_, rfl, rfl, rfl, rfl⟩

set_option maxHeartbeats 400000 in
theorem read_any (b : ByteArray) (w : World) (hb : b.size ≤ 1000000) :
    Calls Tryd.prog 36 #[.string b] w fun e w' => ∃ v ts r, e = .returned (.tuple #[v, .int .i64 (Tp.recs ts).length]) ∧ Tp.IsRead b.data.toList ts r ∧ Strs w' w.heap.size v ts ∧ Below w.heap.size w w' := by
  obtain ⟨i9, hi, hz0, hz1, hz2⟩ := info9
  have Hi := hide hi; have Hz0 := hide hz0; have Hz1 := hide hz1; have Hz2 := hide hz2
  clear hi hz0 hz1 hz2
  go_enter Tryd.func36, Tryd.ntmps36
  go_wp2
  go_loopw [4, 5] (fun v i wr => ∃ (ts : List (List UInt8)) (k : Nat), i = .int .i64 k ∧ k = (Tp.recs ts).length ∧ k ≤ b.size ∧ b.data.toList = Tp.recs ts ++ b.data.toList.drop k ∧ (∀ s ∈ ts, s.length ≤ 10000) ∧ ts.length ≤ k ∧ Strs wr w.heap.size v ts ∧ Below w.heap.size w wr) (fun v i _ => b.size - (intOf i).toNat)
  case atStart => exact ⟨[], 0, rfl, rfl, Nat.zero_le _, by simp [Tp.recs], fun _ h => absurd h (List.not_mem_nil), Nat.zero_le _, World.ownsRow_nil _ _ _ _, Below.refl _ _⟩
  case round =>
    obtain ⟨ts, k, rfl, hk, hkb, hpart, hts, htl, hst, hbw⟩ := hrel
    have hki : (k : Int) ≤ b.size := by omega
    have HK := hide hk; have HP := hide hpart; have HT := hide hts; have HS := hide hst; have HB := hide hbw
    clear hk hpart hts hst hbw
    have hdl : (b.extract k b.size).data.toList = b.data.toList.drop k := by
      rw [data_extract, List.take_of_length_le (by rw [size_list]; exact Nat.le_refl _)]
    have Hdl := hide hdl
    clear hdl
    cases hf : Tp.first (b.data.toList.drop k) with
    | none =>
      have Hf := hide hf
      clear hf
      go_wp2_with fail
      refine (first_any _ _ (by simp; omega)).mono ?_
      rintro e w1 ⟨rfl, m1, rfl⟩
      rw [Hdl.out, Hf.out]
      simp only []
      go_wp2
      go_ret2
      have hb1 : Below wr.heap.size wr (wr.drewN m1) := below_drewN m1
      exact ⟨u4, ts, b.data.toList.drop k, by rw [← HK.out]; rfl, ⟨HP.out, Hf.out, HT.out⟩, HS.out.keeps (Keeps.below hb1), HB.out.trans (hb1.mono HB.out.size)⟩
    | some t =>
      have Hf := hide hf
      clear hf
      go_wp2_with fail
      refine (first_any _ _ (by simp; omega)).mono ?_
      rintro e w1 ⟨rfl, m1, rfl⟩
      rw [Hdl.out, Hf.out]
      simp only []
      obtain ⟨ht1, ht2, ht3⟩ := Tp.first_some Hf.out
      rw [List.length_drop, size_list] at ht2
      have HT3 := hide ht3
      clear ht3
      have hts : (ba t).size = t.length := ba_size t
      go_wp2_with fail
      refine (clone_any (ba t) _ (by omega)).mono ?_
      rintro e w2 ⟨rfl, hb2⟩
      have HB2 : Hid (Below wr.heap.size wr w2) := (below_drewN m1).trans (hb2.mono (below_drewN m1).size)
      have HS2 := hide (HS.out.keeps (Keeps.below HB2.out))
      have HBW2 : Hid (Below w.heap.size w w2) := HB.out.trans (HB2.out.mono HB.out.size)
      clear hb2
      go_wp2_with (at_builtin; refine wpList_append_own _ rfl _ _ 64 rfl w.heap.size 9 i9 (.string ⟨#[]⟩) 1 16 Tryd.underlying64 Hi.out Hz0.out Hz1.out Hz2.out rfl (by decide) _ _ _ rfl (World.ownsRow.alloc HS2.out _) ⟨w2.heap.size, 0, none⟩ 1 1 [.string (ba t)] rfl rfl (cell_one_new _ _ _) ?c2 ?c3 ?c4 ?c5 ?_)
      case c2 => intro u hu; simp at hu; rw [hu]; rfl
      case c3 => unfold maxLen; omega
      case c4 => omega
      case c5 => have := HBW2.out.size; simp; omega
      intro v3 w3 hown' hgrow _
      have HS3 : Hid (Strs w3 w.heap.size v3 (ts ++ [t])) := by
        unfold Strs
        rw [List.map_append, List.length_append]
        exact hown'
      have HB3 : Hid (Below w.heap.size w w3) := (HBW2.out.alloc HBW2.out.size _).grown hgrow (by have := HBW2.out.size; simp; omega) (fun k hk => (World.ownsRow.lt HS2.out k hk).1)
      clear hown' hgrow
      go_wp2_with fail
      refine (recordSize_any (ba t) _ (by omega)).mono ?_
      rintro e w4 ⟨rfl, rfl⟩
      rw [hts]
      simp only []
      go_wp2
      refine ⟨⟨ts ++ [t], k + (12 + t.length), val_int (by omega), ?_, by omega, ?_, ?_, by simp; omega, HS3.out, HB3.out⟩, by simp [intOf]; omega⟩
      · rw [Tp.recs_snoc, List.length_append, Tp.rec_length, ← HK.out]
      · rw [Tp.recs_snoc, List.append_assoc, ← List.drop_drop, ← HT3.out]
        exact HP.out
      · intro s hs
        rcases List.mem_append.1 hs with h | h
        · exact HT.out s h
        · rw [List.mem_singleton.1 h]; exact ht1

/-- SameTexts of two lists with the same texts -/
theorem texts_nil (v1 v2 : Value) (c1 c2 : Nat) (a1 a2 : Option Addr) (w : World) (h1 : v1 = .slice a1 0 c1) (h2 : v2 = .slice a2 0 c2) :
    Calls Tryd.prog 34 #[v1, v2] w fun e w' => e = .returned (.bool true) ∧ ∃ m, w' = w.drewN m := by
  subst h1 h2
  go_enter Tryd.func34, Tryd.ntmps34
  go_wp2
  refine wp_loop_rounds 1 ?_
  rw [rounds_succ]
  go_wp2
  go_ret
  exact ⟨rfl, 0, rfl⟩

set_option maxHeartbeats 400000 in
theorem texts_cells (b1 b2 c1 c2 : Nat) (ts : List (List UInt8)) (w : World) (hn : ts.length ≤ 1000000)
    (h1 : Hid (∀ i, i < ts.length → w.cell? ⟨b1, i, none⟩ = some (.string (ba (ts.getD i []))))) (h2 : Hid (∀ i, i < ts.length → w.cell? ⟨b2, i, none⟩ = some (.string (ba (ts.getD i []))))) :
    Calls Tryd.prog 34 #[.slice (some ⟨b1, 0, none⟩) ts.length c1, .slice (some ⟨b2, 0, none⟩) ts.length c2] w fun e w' => e = .returned (.bool true) ∧ ∃ m, w' = w.drewN m := by
  generalize hl : ts.length = n at *
  have Hl := hide hl
  clear hl
  go_enter Tryd.func34, Tryd.ntmps34
  go_wp2
  go_loopw [5] (fun i wr => ∃ k m : Nat, k ≤ n ∧ i = .int .i64 k ∧ wr = w.drewN m) (fun i _ => n - (intOf i).toNat)
  case atStart => exact ⟨0, 0, by omega, rfl, rfl⟩
  case round =>
    obtain ⟨k, m, hk, rfl, rfl⟩ := hrel
    by_cases hlt : k < n
    · have e1 := h1.out k hlt
      have e2 := h2.out k hlt
      have hki : (k : Int) < n := by omega
      generalize ba (ts.getD k []) = z at *
      go_wp2
      go_quiet (fail)
      go_wp2
      exact ⟨⟨k + 1, m + nq, by omega, by go_num, rfl⟩, by simp [intOf]; omega⟩
    · go_wp2
      go_ret
      exact ⟨rfl, m, rfl⟩

theorem texts_same (v1 v2 : Value) (base1 base2 : Nat) (ts : List (List UInt8)) (w : World) (hn : ts.length ≤ 1000000) (h1 : Strs w base1 v1 ts) (h2 : Strs w base2 v2 ts) :
    Calls Tryd.prog 34 #[v1, v2] w fun e w' => e = .returned (.bool true) ∧ ∃ m, w' = w.drewN m := by
  by_cases h0 : ts = []
  · subst h0
    have f : ∀ {v b}, Strs w b v [] → ∃ a c, v = .slice a 0 c := by
      intro v b h
      rcases h.2 with ⟨rfl, _⟩ | ⟨g, cap, cur, rfl, _⟩
      · exact ⟨_, _, rfl⟩
      · exact ⟨_, _, rfl⟩
    obtain ⟨a1, c1, e1⟩ := f h1
    obtain ⟨a2, c2, e2⟩ := f h2
    exact texts_nil v1 v2 c1 c2 a1 a2 w e1 e2
  · have f : ∀ {v b}, Strs w b v ts → ∃ g cap, v = .slice (some ⟨g, 0, none⟩) ts.length cap := by
      intro v b h
      rcases h.2 with ⟨_, h⟩ | ⟨g, cap, cur, rfl, _⟩
      · exact absurd (List.eq_nil_of_length_eq_zero h) h0
      · exact ⟨_, _, rfl⟩
    obtain ⟨g1, c1, rfl⟩ := f h1
    obtain ⟨g2, c2, rfl⟩ := f h2
    exact texts_cells g1 g2 c1 c2 ts w hn h1.cells h2.cells

theorem setCell_disk {w : World} {p : Nat} {v : Value} {cut cut' : Bool} {left left' : Int} (h : w.heap[p]? = some (.cells #[v, .bool cut, .int .i64 left] 104 (0, 0))) :
    ((w.setCell ⟨p, 1, none⟩ (.bool cut')).setCell ⟨p, 2, none⟩ (.int .i64 left')).heap[p]? = some (.cells #[v, .bool cut', .int .i64 left'] 104 (0, 0)) :=
  heap_setCell_same _ p 2 _ 104 _ (heap_setCell_same w p 1 _ 104 _ h)

theorem Disk.set {w : World} {base p : Nat} {l : List UInt8} {cut : Bool} {left : Int} (h : Disk w base p l cut left) (cut' : Bool) (left' : Int) :
    Disk ((w.setCell ⟨p, 1, none⟩ (.bool cut')).setCell ⟨p, 2, none⟩ (.int .i64 left')) base p l cut' left' ∧ Keeps w ((w.setCell ⟨p, 1, none⟩ (.bool cut')).setCell ⟨p, 2, none⟩ (.int .i64 left')) ∧ Below base w ((w.setCell ⟨p, 1, none⟩ (.bool cut')).setCell ⟨p, 2, none⟩ (.int .i64 left')) := by
  obtain ⟨hb, v, hp, hr⟩ := h
  have hp1 := heap_setCell_same w p 1 _ 104 (.bool cut') hp
  exact ⟨⟨hb, v, setCell_disk hp, (hr.setCell hp _).setCell hp1 _⟩, ((Keeps.refl w).setCell hp _).setCell hp1 _, ((Below.refl base w).setCell hb _).setCell hb _⟩

set_option maxHeartbeats 400000 in
theorem recover_any (base p : Nat) (l : List UInt8) (cut : Bool) (left : Int) (w : World) (hd : Disk w base p l cut left) (hl : l.length ≤ 1000000) (hbs : base ≤ w.heap.size) :
    Calls Tryd.prog 33 #[.pointer (some ⟨p, 0, none⟩)] w fun e w' => ∃ v ts r, e = .returned (.tuple #[v, .nilIface]) ∧ Tp.IsRead l ts r ∧ Strs w' base v ts ∧ Disk w' base p (Tp.recs ts) false 0 ∧ Keeps w w' ∧ Below base w w' := by
  obtain ⟨hd1, hk1, hb1⟩ := hd.set false 0
  have HD1 := hide hd1; have HK1 := hide hk1; have HB1 := hide hb1
  clear hd1 hk1 hb1
  obtain ⟨hb, v, hp, hr⟩ := hd
  have Hp := hide hp
  clear hp hr
  go_enter Tryd.func33, Tryd.ntmps33
  go_wp2_with fail
  refine (on_any p v cut left w Hp.out).mono ?_
  rintro e w1 ⟨rfl, rfl⟩
  generalize (w.setCell ⟨p, 1, none⟩ (.bool false)).setCell ⟨p, 2, none⟩ (.int .i64 0) = w1 at *
  go_wp2_with fail
  refine (bytes_any base p l false 0 w1 HD1.out).mono ?_
  rintro e w2 ⟨rfl, rfl⟩
  go_wp2_with fail
  refine (read_any (ba l) _ (by rw [ba_size]; exact hl)).mono ?_
  rintro e w3 ⟨v3, ts, r, rfl, hread, hst, hb3⟩
  rw [ba_list] at hread
  have HRD := hide hread
  have HST := hide (hst.mono (Nat.le_trans hbs HB1.out.size))
  have HB3 : Hid (Below base w w3) := HB1.out.trans (hb3.mono (Nat.le_trans hbs HB1.out.size))
  have HK3 : Hid (Keeps w w3) := HK1.out.trans (Keeps.below hb3)
  have HD3 := hide (HD1.out.below hb3)
  have hn : (Tp.recs ts).length ≤ l.length := by
    have := congrArg List.length hread.1
    rw [List.length_append] at this
    omega
  clear hread hst hb3
  obtain ⟨_, v3', hp3, hr3⟩ := id HD3.out
  obtain ⟨g3, cap3, hv3, hc3⟩ := hr3.form
  rw [ints_length] at hv3 hc3
  subst hv3
  have hp3l := (disk_cells hp3).2.2.2.2
  obtain ⟨k0, k1, k2, kf, _⟩ := disk_cells hp3
  have Hp3 := hide hp3; have HR3 := hide hr3
  clear hp3 hr3
  generalize hq : (Tp.recs ts).length = q at *
  have hqc : q ≤ cap3 := by omega
  have hqi : (q : Int) ≤ cap3 := by omega
  simp only []
  go_wp2
  go_ret2
  have hrow : RowM w3 base (.slice (some ⟨g3, 0, none⟩) q cap3) (ints (Tp.recs ts)) := by
    have h := HR3.out.take q (by rw [ints_length]; exact hn)
    rw [← ints_take, show l.take q = Tp.recs ts by rw [HRD.out.1, ← hq, List.take_left]] at h
    exact h
  refine ⟨v3, ts, r, rfl, HRD.out, HST.out.keeps ((Keeps.refl w3).setCell Hp3.out _), ⟨hb, _, heap_setCell_same w3 p 0 _ 104 _ Hp3.out, hrow.setCell Hp3.out _⟩, HK3.out.setCell Hp3.out _, HB3.out.setCell hb _⟩
end Go.Proofs.YtnnbbdfocnjhpaaDoor
