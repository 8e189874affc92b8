/- The law TapeCuts, for every list of texts and every cut. -/
import Derived.Test.YtnnbbdfocnjhpaaDoorReadsWalk
namespace Go.Proofs.YtnnbbdfocnjhpaaDoor
open Go.RowKit
set_option maxRecDepth 100000

set_option maxHeartbeats 400000 in
theorem cuts_out (a : Option Addr) (len cap : Nat) (cut : Int) (T : TypeId) (x : Value) (w : World) (h8 : w.cell? ⟨8, 0, none⟩ = some (.iface T x)) (h : (40 : Int) < len ∨ ¬ (40 : Int) < len ∧ cut < 0) :
    Calls Tryd.prog 8 #[.slice a len cap, .int .i64 cut] w fun e w' => e = .returned (.bool true) ∧ Below w.heap.size w w' := by
  rcases h with h | ⟨h, h'⟩
  all_goals
    go_enter Tryd.func8, Tryd.ntmps8
    go_wp2_with fail
    refine (taped_any T x w h8).mono ?_
    rintro e w1 ⟨rfl, hb1⟩
    have HB1 := hide hb1
    clear hb1
    go_wp2
    go_ret
    exact ⟨rfl, HB1.out⟩

/-- a list of texts that grows leaves a disk as it is -/
theorem Disk.strs {w w' : World} {base base' p : Nat} {l : List UInt8} {cut : Bool} {left : Int} {v : Value} {n : Nat} {xs : List Value} (h : Disk w base p l cut left) (hs : w.ownsRow base' 9 1 v n xs) (hg : w.grownBy w' v.ownBlock) : Disk w' base p l cut left := by
  have key : ∀ (k : Nat) (c : Array Value) (t : TypeId) (f : Nat × Nat), w.heap[k]? = some (.cells c t f) → t ≠ 9 → w'.heap[k]? = w.heap[k]? := by
    intro k c t f hk ht
    refine hg.block k (Array.getElem?_eq_some_iff.1 hk).1 ?_
    intro he
    rcases hs.2 with ⟨rfl, _⟩ | ⟨g, cap, cur, rfl, _, hgg, _⟩
    · cases he
    · obtain rfl : k = g := by simpa [Value.ownBlock] using he
      rw [hgg] at hk
      simp only [Option.some.injEq, Obj.cells.injEq] at hk
      exact ht hk.2.1.symm
  obtain ⟨h1, u, h2, g, cap, cur, fz, h3, h4, h5, h6⟩ := h
  exact ⟨h1, u, (key p _ _ _ h2 (by decide)).trans h2, g, cap, cur, fz, h3, h4, (key g _ _ _ h5 (by decide)).trans h5, h6⟩

/-- the disk while texts are appended: what was appended with no error, and, where power has failed, what is no record -/
def CutInv (w wr : World) (p cut k : Nat) (v : Value) : Prop :=
  ∃ (ds : List (List UInt8)) (q : List UInt8) (left : Nat), Strs wr w.heap.size v ds ∧ ds.length ≤ k ∧ Disk wr w.heap.size p (Tp.recs ds ++ q) true left ∧ left ≤ cut ∧ Tp.first q = none ∧ (q = [] ∨ left = 0) ∧
    (∀ s ∈ ds, s.length ≤ 10000) ∧ (Tp.recs ds ++ q).length ≤ 312 * k ∧ Below w.heap.size w wr

set_option maxHeartbeats 400000 in
theorem cuts_main (a : Option Addr) (len cap : Nat) (ls : List ByteArray) (cut : Nat) (T : TypeId) (x : Value) (w : World) (h8 : w.cell? ⟨8, 0, none⟩ = some (.iface T x)) (hlen : len ≤ 40) (hcut : cut ≤ 9223372036854775807)
    (hcells : Hid (∀ i, i < len → ∃ g, a = some g ∧ w.cell? (g.add i) = some (.string (ls.getD i ⟨#[]⟩)))) :
    Calls Tryd.prog 8 #[.slice a len cap, .int .i64 cut] w fun e w' => e = .returned (.bool true) ∧ Below w.heap.size w w' := by
  obtain ⟨i9, hi, hz0, hz1, hz2⟩ := info9
  have Hi := hide hi; have Hz0 := hide hz0; have Hz1 := hide hz1; have Hz2 := hide hz2
  clear hi hz0 hz1 hz2
  have h1' : ¬ (40 : Int) < len := by omega
  have h2' : ¬ (cut : Int) < 0 := by omega
  have h8l : 8 < w.heap.size := World.block_lt_of_cell? _ _ h8
  go_enter Tryd.func8, Tryd.ntmps8
  go_wp2_with fail
  refine (taped_any T x w h8).mono ?_
  rintro e w1 ⟨rfl, hb1⟩
  have HB1 := hide hb1
  clear hb1
  simp only []
  go_wp2_with fail
  refine (newDisk_any ⟨#[]⟩ w1 (by decide)).mono ?_
  rintro e w3 ⟨p, rfl, hd3, hb3⟩
  have HB3 : Hid (Below w.heap.size w w3) := HB1.out.trans (hb3.mono HB1.out.size)
  have HD3 : Hid (Disk w3 w.heap.size p [] false 0) := hd3.mono HB1.out.size
  clear hd3 hb3
  obtain ⟨_, v3, hp3, _⟩ := id HD3.out
  have Hp3 := hide hp3
  clear hp3
  obtain ⟨hs1, hs2, hs3⟩ := HD3.out.set true cut
  have HD4 := hide hs1; have HB4 := hide (HB3.out.trans hs3)
  clear hs1 hs2 hs3
  simp only []
  go_wp2_with fail
  refine (cut_any p v3 0 cut w3 Hp3.out (by omega)).mono ?_
  rintro e w4 ⟨rfl, rfl⟩
  generalize (w3.setCell ⟨p, 1, none⟩ (.bool true)).setCell ⟨p, 2, none⟩ (.int .i64 cut) = w4 at *
  simp only []
  go_wp2
  go_loopw [8, 9] (fun v i wr => ∃ k : Nat, i = .int .i64 k ∧ k ≤ len ∧ CutInv w wr p cut k v) (fun _ i _ => len - (intOf i).toNat)
  case atStart => exact ⟨0, rfl, Nat.zero_le _, [], [], cut, World.ownsRow_nil _ _ _ _, Nat.zero_le _, HD4.out, Nat.le_refl _, rfl, .inl rfl, fun _ h => absurd h List.not_mem_nil, Nat.zero_le _, HB4.out⟩
  case round =>
    obtain ⟨k, rfl, hk, ds, q, left, hst, hdl, hd, hlc, hq, hql, hds, hsz, hbw⟩ := hrel
    have HS := hide hst; have HD := hide hd; have HQ := hide hq; have HQL := hide hql; have HDS := hide hds; have HB := hide hbw; have HZ := hide hsz
    clear hst hd hq hql hds hbw hsz
    by_cases hlt : k < len
    · have hki : (k : Int) < len := by omega
      obtain ⟨g, hg, hc⟩ := hcells.out k hlt
      subst hg
      have hcr : wr.cell? (g.add k) = some (.string (ls.getD k ⟨#[]⟩)) := by rw [HB.out.cell (p := g.add k) (World.block_lt_of_cell? _ _ hc)]; exact hc
      clear hc
      generalize ls.getD k ⟨#[]⟩ = z at *
      by_cases hz : (300 : Int) < z.size
      · go_wp2
        go_ret
        exact ⟨rfl, HB.out⟩
      · have hz3 : z.size ≤ 300 := by omega
        have hzz := HZ.out
        have HA := hide (append_cut w.heap.size p (Tp.recs ds ++ q) z left wr T x HD.out (by omega) (by omega) (by omega) (cell_later HB.out h8) h8l HB.out.size)
        clear hzz
        go_wp2_with fail
        refine HA.out.mono ?_
        rintro e w5 ⟨rfl, hd5, hk5, hb5⟩
        have HD5 := hide hd5; have HS5 := hide (HS.out.keeps hk5); have HB5 := hide (HB.out.trans hb5)
        have hcr5 : w5.cell? (g.add k) = some (.string z) := by
          obtain ⟨g', hg', hc'⟩ := hcells.out k hlt
          have hgb : (g.add k).block < w.heap.size := by obtain rfl := Option.some.inj hg'; exact World.block_lt_of_cell? _ _ hc'
          rw [hb5.cell (p := g.add k) hgb]; exact hcr
        clear hd5 hk5 hb5 HA hcr
        by_cases hfit : 12 + z.size ≤ left
        · rw [if_pos hfit]
          have hq0 : q = [] := by
            rcases HQL.out with h | h
            · exact h
            · omega
          subst hq0
          have HD6 : Hid (Disk w5 w.heap.size p (Tp.recs (ds ++ [z.data.toList]) ++ []) true (left - (12 + z.size) : Nat)) := by
            have := HD5.out
            rw [List.append_nil, List.take_of_length_le (by rw [Tp.rec_length, size_list]; exact hfit), ← Tp.recs_snoc] at this
            rw [List.append_nil]
            exact this
          clear HD5
          simp only []
          go_wp2_with (at_builtin; refine wpList_append_own _ rfl _ _ 64 rfl w.heap.size 9 i9 (.string ⟨#[]⟩) 1 16 Tryd.underlying64 Hi.out Hz0.out Hz1.out Hz2.out rfl (by decide) _ _ _ rfl (World.ownsRow.alloc HS5.out _) ⟨w5.heap.size, 0, none⟩ 1 1 [.string z] rfl rfl (cell_one_new _ _ _) ?c2 ?c3 ?c4 ?c5 ?_)
          case c2 => rfl
          case c3 => unfold maxLen; omega
          case c4 => omega
          case c5 => have := HB5.out.size; simp; omega
          intro v7 w7 hown' hgrow _
          have HS7 : Hid (Strs w7 w.heap.size v7 (ds ++ [z.data.toList])) := by
            unfold Strs
            rw [List.map_append, List.length_append]
            exact hown'
          have HB7 : Hid (Below w.heap.size w w7) := (HB5.out.alloc HB5.out.size _).grown hgrow (by have := HB5.out.size; simp; omega) (fun k hk => (World.ownsRow.lt HS5.out k hk).1)
          have HD7 : Hid (Disk w7 w.heap.size p (Tp.recs (ds ++ [z.data.toList]) ++ []) true (left - (12 + z.size) : Nat)) := by
            have h1 := HD6.out.below ((Below.refl _ w5).alloc (Nat.le_refl _) (.cells #[.string z] 9))
            exact h1.strs (World.ownsRow.alloc HS5.out _) hgrow
          clear hown' hgrow
          have hzz := HZ.out
          have hrl : (Tp.recs (ds ++ [z.data.toList]) ++ []).length = (Tp.recs ds ++ []).length + (12 + z.size) := by
            rw [List.append_nil, List.append_nil, Tp.recs_snoc, List.length_append, Tp.rec_length, size_list]
          go_wp2
          refine ⟨⟨k + 1, by go_num, by omega, ds ++ [z.data.toList], [], left - (12 + z.size), HS7.out, by simp; omega, HD7.out, by omega, rfl, .inl rfl, ?_, by omega, HB7.out⟩, by simp [intOf]; omega⟩
          intro s hs
          rcases List.mem_append.1 hs with h | h
          · exact HDS.out s h
          · rw [List.mem_singleton.1 h, size_list]; omega
        · rw [if_neg hfit]
          simp only []
          have hzz := HZ.out
          have hl0 : left - (12 + z.size) = 0 := by omega
          have hlr : (Tp.rec z.data.toList).length = 12 + z.size := by rw [Tp.rec_length, size_list]
          have Hlr := hide hlr
          have HF : Hid (Tp.first (q ++ (Tp.rec z.data.toList).take left) = none) := by
            rcases HQL.out with h | h
            · rw [h, List.nil_append]
              exact Tp.first_cut z.data.toList _ (by rw [size_list]; omega) (List.take_prefix _ _) (by rw [List.length_take, hlr]; omega)
            · rw [h, List.take_zero, List.append_nil]; exact HQ.out
          have hlen2 : (Tp.recs ds ++ (q ++ (Tp.rec z.data.toList).take left)).length ≤ 312 * (k + 1) := by
            rw [← List.append_assoc, List.length_append, List.length_take, hlr]; omega
          have HL2 := hide hlen2
          clear hlr hlen2
          go_wp2
          refine ⟨⟨k + 1, by go_num, by omega, ds, q ++ (Tp.rec z.data.toList).take left, 0, HS5.out, by omega, ?_, by omega, HF.out, .inr rfl, HDS.out, HL2.out, HB5.out⟩, by simp [intOf]; omega⟩
          have := HD5.out
          rw [hl0, List.append_assoc] at this
          exact this
    · have hki : ¬ (k : Int) < len := by omega
      have hzz := HZ.out
      have HR := hide (recover_any w.heap.size p _ true left wr HD.out (by omega) HB.out.size)
      clear hzz
      go_wp2_with fail
      refine HR.out.mono ?_
      rintro e w5 ⟨v5, ts, r, rfl, hrd, hst5, hd5, hk5, hb5⟩
      obtain ⟨rfl, rfl⟩ := Tp.IsRead.unique hrd HDS.out HQ.out
      have HD5 := hide hd5; have HX5 := hide hst5; have HS5 := hide (HS.out.keeps hk5); have HB5 := hide (HB.out.trans hb5)
      clear hrd hst5 hd5 hk5 hb5
      simp only []
      go_wp2_with fail
      refine (texts_same _ _ _ _ ts w5 (by omega) HX5.out HS5.out).mono ?_
      rintro e w6 ⟨rfl, m6, rfl⟩
      have HB6 : Hid (Below w5.heap.size w5 (w5.drewN m6)) := below_drewN m6
      have HD6 := hide (HD5.out.below HB6.out)
      have HS6 := hide (HS5.out.keeps (Keeps.below HB6.out))
      have HBB6 := hide (HB5.out.trans (HB6.out.mono HB5.out.size))
      generalize w5.drewN m6 = w6 at *
      clear HB6
      obtain ⟨_, v6, hp6, _⟩ := id HD6.out
      have Hp6 := hide hp6
      clear hp6
      simp only []
      go_wp2_with fail
      refine (power_any p v6 false 0 w6 Hp6.out).mono ?_
      rintro e w7 ⟨rfl, rfl⟩
      simp only [Bool.not_false, Bool.true_or]
      go_wp2_with fail
      have hrl : (Tp.recs ts).length ≤ 312 * 40 := by
        have := HZ.out
        rw [List.length_append] at this
        omega
      refine (append_free w.heap.size p _ ⟨#[111, 110, 101, 32, 109, 111, 114, 101]⟩ 0 w7 T x HD6.out (by decide) (by rw [show (ByteArray.mk #[111, 110, 101, 32, 109, 111, 114, 101]).size = 8 from rfl]; omega) (cell_later HBB6.out h8) h8l HBB6.out.size).mono ?_
      rintro e w8 ⟨rfl, hd8, hk8, hb8⟩
      obtain ⟨om, hom⟩ : ∃ om : List UInt8, om = [111, 110, 101, 32, 109, 111, 114, 101] := ⟨_, rfl⟩
      rw [show (ByteArray.mk #[111, 110, 101, 32, 109, 111, 114, 101]).data.toList = om from hom.symm, ← Tp.recs_snoc] at hd8
      have hol : om.length = 8 := by rw [hom]; rfl
      have HD8 := hide hd8; have HS8 := hide (HS6.out.keeps hk8); have HB8 := hide (HBB6.out.trans hb8); have Hom := hide hom
      clear hd8 hk8 hb8 hom
      have hrl2 : (Tp.recs (ts ++ [om])).length ≤ 1000000 := by rw [Tp.recs_snoc, List.length_append, Tp.rec_length]; omega
      have HRL2 := hide hrl2
      clear hrl2
      simp only []
      go_wp2_with fail
      refine (bytes_any w.heap.size p _ false 0 w8 HD8.out).mono ?_
      rintro e w9 ⟨rfl, rfl⟩
      simp only []
      go_wp2_with fail
      refine (read_any _ w9 (by rw [ba_size]; exact HRL2.out)).mono ?_
      rintro e w10 ⟨v10, ts10, r10, rfl, hrd, hst10, hb10⟩
      rw [ba_list] at hrd
      obtain ⟨rfl, rfl⟩ : ts10 = ts ++ [om] ∧ r10 = [] := by
        refine Tp.IsRead.unique (r := []) ?_ ?_ rfl
        · rw [List.append_nil]; exact hrd
        · intro s hs
          rcases List.mem_append.1 hs with h | h
          · exact HDS.out s h
          · rw [List.mem_singleton.1 h, hol]; decide
      have HX10 := hide hst10
      have HD10 := hide (HD8.out.below hb10); have HB10 := hide (HB8.out.trans (hb10.mono HB8.out.size))
      clear hrd hb10
      obtain ⟨g10, cap10, hv10⟩ : ∃ g cap, v10 = .slice (some ⟨g, 0, none⟩) (ts ++ [om]).length cap := by
        rcases hst10.form with ⟨h, _⟩ | ⟨g, cap, h, _⟩
        · simp at h
        · exact ⟨g, cap, h⟩
      subst hv10
      have hlast : w10.cell? ⟨g10, ts.length, none⟩ = some (.string ⟨#[111, 110, 101, 32, 109, 111, 114, 101]⟩) := by
        rw [HX10.out.cells ts.length (by simp), show (ts ++ [om]).getD ts.length [] = om by simp [List.getD_eq_getElem?_getD], Hom.out]
        rfl
      clear hst10
      obtain ⟨a8, c8, hv8, _⟩ := HS8.out.form'
      subst hv8
      rw [show (ts ++ [om]).length = ts.length + 1 by simp]
      have hzb : (ba (Tp.recs (ts ++ [om]))).size = (Tp.recs (ts ++ [om])).length := ba_size _
      simp only []
      go_wp2_with fail
      refine (bytes_any w.heap.size p _ false 0 w10 HD10.out).mono ?_
      rintro e w11 ⟨rfl, rfl⟩
      generalize ba (Tp.recs (ts ++ [om])) = B at *
      generalize (Tp.recs (ts ++ [om])).length = N at *
      simp only []
      go_wp2
      go_ret
      exact ⟨rfl, HB10.out⟩

theorem cuts_any (a : Option Addr) (len cap : Nat) (ls : List ByteArray) (cut : Int) (T : TypeId) (x : Value) (w : World) (h8 : w.cell? ⟨8, 0, none⟩ = some (.iface T x)) (hcut : cut ≤ 9223372036854775807)
    (hcells : ∀ i, i < len → ∃ g, a = some g ∧ w.cell? (g.add i) = some (.string (ls.getD i ⟨#[]⟩))) :
    Calls Tryd.prog 8 #[.slice a len cap, .int .i64 cut] w fun e w' => e = .returned (.bool true) ∧ Below w.heap.size w w' := by
  by_cases h1 : (40 : Int) < len
  · exact cuts_out a len cap cut T x w h8 (.inl h1)
  · by_cases h2 : cut < 0
    · exact cuts_out a len cap cut T x w h8 (.inr ⟨h1, h2⟩)
    · obtain ⟨c, rfl⟩ := Int.eq_ofNat_of_zero_le (show 0 ≤ cut by omega)
      exact cuts_main a len cap ls c T x w h8 (by omega) (by omega) hcells
end Go.Proofs.YtnnbbdfocnjhpaaDoor
