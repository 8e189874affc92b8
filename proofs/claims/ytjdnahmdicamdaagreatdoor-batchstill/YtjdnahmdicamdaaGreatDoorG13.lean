/- The sort of numbers, their turning round, the keys of a map, by the contracts of the library that is given, at this program. -/
import Derived.Shelf.Sort.Plain
import Derived.Shelf.Slices.Reverse
import Derived.Shelf.Slices.In.SortNone
import Derived.Shelf.SlIterI.Nil
import Derived.Test.YtjdnahmdicamdaaGreatDoorProg
import Derived.Maps.OwnSet
import Derived.Test.YtjdnahmdicamdaaGreatDoorG12
namespace Go.Proofs.YtjdnahmdicamdaaGreatDoor
open Go.Shelf
def lays189_ren : Go.Shelf.Ren := ⟨fun | 189 => 146 | 125 => 151 | 257 => 150 | 128 => 162 | 129 => 163 | 294 => 153 | 295 => 154 | 296 => 155 | 297 => 156 | 298 => 157 | 299 => 158 | 216 => 159 | 300 => 160 | 301 => 161 | 328 => 164 | 329 => 165 | 330 => 166 | 331 => 167 | 332 => 168 | 215 => 169 | 343 => 170 | n => n, fun | 28 => 144 | 3 => 3 | 46 => 230 | 0 => 0 | 51 => 23 | 53 => 244 | 4 => 4 | 183 => 236 | 182 => 235 | 131 => 240 | 5 => 5 | 9 => 9 | 218 => 245 | 222 => 154 | 228 => 250 | 229 => 125 | n => n, fun | n => n⟩
theorem lays189 : Go.Proofs.Lays.n189 Tryz.prog lays189_ren := {
  mixed := by kernel_rfl
  f125 := Tryz.func151.trans (congrArg some (by kernel_rfl))
  f128 := Tryz.func162.trans (congrArg some (by kernel_rfl))
  f129 := Tryz.func163.trans (congrArg some (by kernel_rfl))
  f189 := Tryz.func146.trans (congrArg some (by kernel_rfl))
  f215 := Tryz.func169.trans (congrArg some (by kernel_rfl))
  f216 := Tryz.func159.trans (congrArg some (by kernel_rfl))
  f257 := Tryz.func150.trans (congrArg some (by kernel_rfl))
  f294 := Tryz.func153.trans (congrArg some (by kernel_rfl))
  f295 := Tryz.func154.trans (congrArg some (by kernel_rfl))
  f296 := Tryz.func155.trans (congrArg some (by kernel_rfl))
  f297 := Tryz.func156.trans (congrArg some (by kernel_rfl))
  f298 := Tryz.func157.trans (congrArg some (by kernel_rfl))
  f299 := Tryz.func158.trans (congrArg some (by kernel_rfl))
  f300 := Tryz.func160.trans (congrArg some (by kernel_rfl))
  f301 := Tryz.func161.trans (congrArg some (by kernel_rfl))
  f328 := Tryz.func164.trans (congrArg some (by kernel_rfl))
  f329 := Tryz.func165.trans (congrArg some (by kernel_rfl))
  f330 := Tryz.func166.trans (congrArg some (by kernel_rfl))
  f331 := Tryz.func167.trans (congrArg some (by kernel_rfl))
  f332 := Tryz.func168.trans (congrArg some (by kernel_rfl))
  f343 := Tryz.func170.trans (congrArg some (by kernel_rfl))
  t0 := Tryz.underlying0
  a0 := Tryz.isAgg0
  z0 := Tryz.sizeOf0
  v0 := Tryz.zeroValue0
  t3 := Tryz.underlying3
  a3 := Tryz.isAgg3
  z3 := Tryz.sizeOf3
  v3 := Tryz.zeroValue3
  t4 := Tryz.underlying4
  a4 := Tryz.isAgg4
  z4 := Tryz.sizeOf4
  v4 := Tryz.zeroValue4
  t5 := Tryz.underlying5
  a5 := Tryz.isAgg5
  z5 := Tryz.sizeOf5
  v5 := Tryz.zeroValue5
  t9 := Tryz.underlying9
  a9 := Tryz.isAgg9
  z9 := Tryz.sizeOf9
  v9 := Tryz.zeroValue9
  t28 := Tryz.underlying144
  a28 := Tryz.isAgg144
  z28 := Tryz.sizeOf144
  v28 := Tryz.zeroValue144
  t46 := Tryz.underlying230
  a46 := Tryz.isAgg230
  z46 := Tryz.sizeOf230
  v46 := Tryz.zeroValue230
  t51 := Tryz.underlying23
  a51 := Tryz.isAgg23
  z51 := Tryz.sizeOf23
  v51 := Tryz.zeroValue23
  t53 := Tryz.underlying244
  a53 := Tryz.isAgg244
  z53 := Tryz.sizeOf244
  v53 := Tryz.zeroValue244
  t131 := Tryz.underlying240
  a131 := Tryz.isAgg240
  z131 := Tryz.sizeOf240
  v131 := Tryz.zeroValue240
  t182 := Tryz.underlying235
  a182 := Tryz.isAgg235
  z182 := Tryz.sizeOf235
  v182 := Tryz.zeroValue235
  t183 := Tryz.underlying236
  a183 := Tryz.isAgg236
  z183 := Tryz.sizeOf236
  v183 := Tryz.zeroValue236
  t218 := Tryz.underlying245
  a218 := Tryz.isAgg245
  z218 := Tryz.sizeOf245
  v218 := Tryz.zeroValue245
  t222 := Tryz.underlying154
  a222 := Tryz.isAgg154
  z222 := Tryz.sizeOf154
  v222 := Tryz.zeroValue154
  t228 := Tryz.underlying250
  a228 := Tryz.isAgg250
  z228 := Tryz.sizeOf250
  v228 := Tryz.zeroValue250
  t229 := Tryz.underlying125
  a229 := Tryz.isAgg125
  z229 := Tryz.sizeOf125
  v229 := Tryz.zeroValue125 }
open Go.Sort Go.RowKit in
theorem slices_Sort_int (blk off cap : Nat) (zs : List Int) (w : World) (hH : Holds (Value.int .i64) w blk off zs.toArray) (hblk : blk < w.heap.size) (hsz : zs.length < 4611686018427387904) :
    Calls Tryz.prog 146 #[.slice (some ⟨blk, off, none⟩) zs.length cap] w fun e w' =>
      e = .returned (.tuple #[]) ∧ ∃ n os, w' = grow (putRow (Value.int .i64) (Sort.ahead w n) blk off (zs.mergeSort fun x y => decide (x ≤ y)).toArray) os := Any.slices_Sort_int lays189 blk off cap zs w hH hblk hsz
def lays112_ren : Go.Shelf.Ren := ⟨fun | 112 => 135 | n => n, fun | 28 => 144 | 3 => 3 | 4 => 4 | 0 => 0 | n => n, fun | n => n⟩
theorem lays112 : Go.Proofs.Lays.n112 Tryz.prog lays112_ren := {
  mixed := by kernel_rfl
  f112 := Tryz.func135.trans (congrArg some (by kernel_rfl))
  t0 := Tryz.underlying0
  a0 := Tryz.isAgg0
  z0 := Tryz.sizeOf0
  v0 := Tryz.zeroValue0
  t3 := Tryz.underlying3
  a3 := Tryz.isAgg3
  z3 := Tryz.sizeOf3
  v3 := Tryz.zeroValue3
  t4 := Tryz.underlying4
  a4 := Tryz.isAgg4
  z4 := Tryz.sizeOf4
  v4 := Tryz.zeroValue4
  t28 := Tryz.underlying144
  a28 := Tryz.isAgg144
  z28 := Tryz.sizeOf144
  v28 := Tryz.zeroValue144 }
open Go.RowKit Go.Lib Go.Sort in
/-- slices.Reverse at []int, over an array: Go's loop from the two ends inward is walked; it makes 'Sort.reverseLoop 0 (len - 1)', which is 'Array.reverse' (Derived/Lib/SlicesMore.lean). (LAID: no walk: one application.) -/
theorem slices_Reverse_int_arr (blk off cap : Nat) (d : Array Int) (w : World) (hH : Holds encI w blk off d) (hsz : d.size ≤ 9223372036854775807) :
    Calls Tryz.prog 135 #[.slice (some ⟨blk, off, none⟩) d.size cap] w fun e w' => e = .returned (.tuple #[]) ∧ ∃ n, w' = putRow encI (Sort.ahead w n) blk off d.reverse := Any.slices_Reverse_int_arr lays112 blk off cap d w hH hsz
open Go.RowKit Go.Lib Go.Sort in
/-- slices.Reverse at []int: "Reverse reverses the elements of the slice in place.": THE SLICE's CELLS HOLD 'zs.reverse' BEHIND THE CALL; all else is as it was, but for the count of draws (the exchange 's[i], s[j] = s[j], s[i]' draws its order, once a round). IN THE WORDS OF slices.Sort's CONTRACT: 'Holds': the cells hold zs and none is frozen; 'putRow': the world with those cells holding another array. A slice of length 0 that is not nil is among them ('zs = []'); nil: '.._nil'. (LAID: no walk: one application.) -/
theorem slices_Reverse_int (blk off cap : Nat) (zs : List Int) (w : World) (hH : Holds (Value.int .i64) w blk off zs.toArray) (hsz : zs.length ≤ 9223372036854775807) :
    Calls Tryz.prog 135 #[.slice (some ⟨blk, off, none⟩) zs.length cap] w fun e w' => e = .returned (.tuple #[]) ∧ ∃ n, w' = putRow (Value.int .i64) (Sort.ahead w n) blk off zs.reverse.toArray := Any.slices_Reverse_int lays112 blk off cap zs w hH hsz
open Go.RowKit Go.Lib Go.Sort in
/-- The same at a slice of length 0, a nil one too: nothing is read, nothing written, nothing drawn. (LAID: no walk: one application.) -/
theorem slices_Reverse_int_empty (a : Option Addr) (cap : Nat) (w : World) :
    Calls Tryz.prog 135 #[.slice a 0 cap] w fun e w' => e = .returned (.tuple #[]) ∧ w' = w := Any.slices_Reverse_int_empty lays112 a cap w
open Go.RowKit Go.Sort in
/-- .. and plain. (LAID: no walk: one application.) -/
theorem slices_Sort_int_none (p : Option Addr) (cap : Nat) (w : World) :
    Calls Tryz.prog 146 #[.slice p 0 cap] w fun e w' => e = .returned (.tuple #[]) ∧ w' = w := Any.slices_Sort_int_none lays189 p cap w
def keysA_ren : Go.Shelf.Ren := ⟨fun | 7 => 134 | 10 => 147 | n => n, fun | 23 => 169 | 26 => 3 | 3 => 188 | 28 => 210 | 0 => 0 | 27 => 209 | 33 => 120 | 4 => 4 | n => n, fun | n => n⟩
theorem keysA : Go.Proofs.SlLaysZI.n7 Tryz.prog keysA_ren := {
  mixed := by kernel_rfl
  f7 := ⟨Tryz.f134.name, by decide, Tryz.func134.trans (congrArg some (by kernel_rfl))⟩
  f10 := ⟨Tryz.f147.name, by decide, Tryz.func147.trans (congrArg some (by kernel_rfl))⟩
  t0 := Tryz.underlying0
  a0 := Tryz.isAgg0
  z0 := Tryz.sizeOf0
  v0 := Tryz.zeroValue0
  t4 := Tryz.underlying4
  a4 := Tryz.isAgg4
  z4 := Tryz.sizeOf4
  v4 := Tryz.zeroValue4
  t23 := Tryz.underlying169
  a23 := Tryz.isAgg169
  z23 := Tryz.sizeOf169
  v23 := Tryz.zeroValue169
  t26 := Tryz.underlying3
  a26 := Tryz.isAgg3
  z26 := Tryz.sizeOf3
  v26 := Tryz.zeroValue3
  t27 := Tryz.underlying209
  a27 := Tryz.isAgg209
  z27 := Tryz.sizeOf209
  v27 := Tryz.zeroValue209
  t28 := Tryz.underlying210
  a28 := Tryz.isAgg210
  z28 := Tryz.sizeOf210
  v28 := Tryz.zeroValue210
  t33 := Tryz.underlying120
  a33 := Tryz.isAgg120
  z33 := Tryz.sizeOf120
  v33 := Tryz.zeroValue120 }
def sortedA_ren : Go.Shelf.Ren := ⟨fun | 6 => 133 | 8 => 145 | 9 => 146 | 11 => 149 | 13 => 151 | 12 => 150 | 23 => 162 | 24 => 163 | 14 => 153 | 15 => 154 | 16 => 155 | 17 => 156 | 18 => 157 | 19 => 158 | 20 => 159 | 21 => 160 | 22 => 161 | 25 => 164 | 26 => 165 | 27 => 166 | 28 => 167 | 29 => 168 | 30 => 169 | 31 => 170 | n => n, fun | 26 => 3 | 28 => 210 | 24 => 144 | 0 => 0 | 3 => 3 | 37 => 230 | 48 => 23 | 50 => 244 | 4 => 4 | 40 => 236 | 39 => 235 | 45 => 240 | 5 => 5 | 9 => 9 | 51 => 245 | 55 => 154 | 57 => 250 | 58 => 125 | 33 => 120 | n => n, fun | n => n⟩
theorem sortedA : Go.Proofs.SlLaysZI.n6 Tryz.prog sortedA_ren := {
  mixed := by kernel_rfl
  f6 := ⟨Tryz.f133.name, by decide, Tryz.func133.trans (congrArg some (by kernel_rfl))⟩
  f8 := ⟨Tryz.f145.name, by decide, Tryz.func145.trans (congrArg some (by kernel_rfl))⟩
  f11 := ⟨Tryz.f149.name, by decide, Tryz.func149.trans (congrArg some (by kernel_rfl))⟩
  t0 := Tryz.underlying0
  a0 := Tryz.isAgg0
  z0 := Tryz.sizeOf0
  v0 := Tryz.zeroValue0
  t24 := Tryz.underlying144
  a24 := Tryz.isAgg144
  z24 := Tryz.sizeOf144
  v24 := Tryz.zeroValue144
  t26 := Tryz.underlying3
  a26 := Tryz.isAgg3
  z26 := Tryz.sizeOf3
  v26 := Tryz.zeroValue3
  t28 := Tryz.underlying210
  a28 := Tryz.isAgg210
  z28 := Tryz.sizeOf210
  v28 := Tryz.zeroValue210
  i26 := by kernel_rfl }
end Go.Proofs.YtjdnahmdicamdaaGreatDoor
/- bestFirst by its contract: the prices of the levels, the best one first. -/
namespace Go.Proofs.YtjdnahmdicamdaaGreatDoor
open Go.RowKit Go.Maps Go.Shelf
set_option maxRecDepth 100000

/-- slices.Sort's two contracts, at the fence that asks nothing. -/
theorem sortsA (m : Nat) : AnyZI.SortsIn Tryz.prog sortedA_ren Fence.wide m :=
  ⟨fun blk off cap ss W hH hblk hsz => callsIn_wide.2 (slices_Sort_int blk off cap ss W hH hblk hsz), fun p cap W => callsIn_wide.2 (slices_Sort_int_none p cap W)⟩
theorem keys_any (mb : Option Nat) (W : World) : Calls Tryz.prog 134 #[.map mb] W fun e w' => e = .returned (.func (.func 147) #[] #[.pointer (some ⟨W.heap.size, 0, none⟩)]) ∧ w' = W.alloc (.cells #[.map mb] 169) :=
  (callsIn_wide (n := 5)).1 (AnyZI.keys_in keysA Fence.wide 5 trivial rfl mb W)
theorem sorted_any (b nn : Nat) (D0 : DataW Value) (w : World) (hown : w.ownsMap Tryz.prog 3 RV b nn D0) (hnn : nn ≤ 1000) :
    Calls Tryz.prog 133 #[.func (.func 147) #[] #[.pointer (some ⟨w.heap.size, 0, none⟩)]] (w.alloc (.cells #[.map (some b)] 169)) fun e w' => ∃ (v : Value) (ss : List Int), e = .returned v ∧ ss.Perm (intKeys D0) ∧
      w'.ownsRow (w.alloc (.cells #[.map (some b)] 169)).heap.size 3 1 v ss.length ((ss.mergeSort (fun x y => decide (x ≤ y))).map encZ) ∧ (v = .slice none 0 0 ↔ ss = []) ∧ Below (w.alloc (.cells #[.map (some b)] 169)).heap.size (w.alloc (.cells #[.map (some b)] 169)) w' := by
  have hseq : SeqGives Fence.wide 2 Tryz.prog 147 #[.pointer (some ⟨w.heap.size, 0, none⟩)] encZ (fun ss => ss.Perm (intKeys D0)) (Maps.size D0) (w.alloc (.cells #[.map (some b)] 169)) :=
    AnyZI.keys_gives (ρ := keysA_ren) { keysA with } Fence.wide _ trivial rfl (by omega) w.heap.size b nn D0 _ (by simp) (by simp) (hown.alloc _)
  have hsz := hown.size_le
  have cS := AnyZI.sorted_in sortedA Fence.wide 5 trivial trivial trivial trivial rfl (by omega) (sortsA _) (enters_of Tryz.func146 (by kernel_rfl) rfl) 147 #[.pointer (some ⟨w.heap.size, 0, none⟩)] trivial (enters_of Tryz.func147 (by kernel_rfl) rfl) _ _ (by unfold maxLen; omega) (by omega) _ hseq
  change CallsIn _ _ Tryz.prog 133 _ _ _ at cS
  exact (callsIn_wide (n := 5)).1 cS

/-- a slice that holds prices -/
def Prs (w : World) (v : Value) (ps : List Int) : Prop :=
  (ps = [] ∧ v = .slice none 0 0) ∨ ∃ b cap, v = .slice (some ⟨b, 0, none⟩) ps.length cap ∧ ∀ i, i < ps.length → w.cell? ⟨b, i, none⟩ = some (.int .i64 (ps.getD i 0))
theorem Prs.later {w w' : World} {v : Value} {ps : List Int} (h : Prs w v ps) (hb : Below w.heap.size w w') : Prs w' v ps := by
  rcases h with h | ⟨b, cap, h1, h2⟩
  · exact .inl h
  · exact .inr ⟨b, cap, h1, fun i hi => cell_later hb (h2 i hi)⟩
theorem prs_of {w : World} {base n : Nat} {v : Value} {ps : List Int} (hn : n = ps.length) (h : w.ownsRow base 3 1 v n (ps.map encZ)) : Prs w v ps := by
  subst hn
  rcases h.2 with ⟨h1, h2⟩ | ⟨g, cap, cur, h1, _⟩
  · exact .inl ⟨List.eq_nil_of_length_eq_zero h2, h1⟩
  · refine .inr ⟨g, cap, h1, fun i hi => ?_⟩
    have := World.ownsRow.cells h (g := g) (by rw [h1]; rfl) i (.int .i64 (ps.getD i 0)) (by simp [hi, encZ])
    have hp : (⟨g, 0, none⟩ : Addr).add i = ⟨g, i, none⟩ := by unfold Addr.add; split <;> simp_all
    rwa [hp] at this
theorem sorted_is {w : World} {b n : Nat} {D : DataW Value} (hown : w.ownsMap Tryz.prog 3 RV b n D) {ps ss : List Int} (hp : ps.Pairwise (· < ·)) (hm : ∀ p, p ∈ ps ↔ Maps.has D (.int .i64 p) = true) (hs : ss.Perm (intKeys D)) :
    ss.mergeSort (fun x y => decide (x ≤ y)) = ps ∧ ss.length = ps.length ∧ ps.length ≤ n := by
  have hle := hown.size_le
  obtain ⟨es, hD, hpw, _⟩ := hown.entries keyed3
  obtain ⟨es', hD', hko⟩ := hown.keysOf
  obtain rfl : es = es' := by rw [hD] at hD'; simpa using hD'
  subst hD
  have hperm := perm_intKeys hpw (fun p hp => by obtain ⟨v, hv⟩ := hko p hp; obtain ⟨x, _, hx, _⟩ := Maps.keyOf_i64 Tryz.underlying3 hv; exact ⟨x, hx⟩) (hp.imp fun h e => by omega) hm
  have h2 := hs.trans hperm.symm
  refine ⟨?_, h2.length_eq, ?_⟩
  rotate_left
  · rw [← h2.length_eq, hs.length_eq]
    simpa [intKeys, Maps.size] using hle
  have h3 := mergeSort_of_perm_i h2
  rw [show ss.mergeSort (fun x y => decide (x ≤ y)) = ps.mergeSort leI from h3]
  exact List.mergeSort_of_pairwise (hp.imp fun h => by simp [leI]; omega)

set_option maxHeartbeats 400000 in
theorem bestFirst_any (sd : Int) (B base n : Nat) (f : Int → List Cv.Lot) (ps : List Int) (w : World) (hL : Hid (Levels w base B n f)) (hn : n ≤ 1000) (hp : Hid (ps.Pairwise (· < ·))) (hm : Hid (∀ p, p ∈ ps ↔ f p ≠ [])) :
    Calls Tryz.prog 118 #[.map (some B), .int .i64 sd] w fun e w' => ∃ v, e = .returned v ∧ Prs w' v (if sd = 0 then ps.reverse else ps) ∧ Below w.heap.size w w' := by
  obtain ⟨D, g, hLv⟩ := hL.out
  have HO := hide hLv.own
  have HM : Hid (∀ p, p ∈ ps ↔ Maps.has D (.int .i64 p) = true) := fun p => by
    rw [hm.out p, hLv.has_ p]; simp
  clear hLv
  by_cases hs : sd = 0
  · subst hs
    rw [if_pos rfl]
    go_enter Tryz.func118, Tryz.ntmps118
    go_wp2_with fail
    refine (keys_any (some B) _).mono ?_
    rintro e w1 ⟨rfl, rfl⟩
    simp only []
    go_wp2_with fail
    refine (sorted_any B n D w HO.out hn).mono ?_
    rintro e w2 ⟨v, ss, rfl, hss, hrow, hnil, hb⟩
    obtain ⟨e1, e2, e3⟩ := sorted_is HO.out hp.out HM.out hss
    rw [e1, e2] at hrow
    have HB2 : Hid (Below w.heap.size w w2) := ((Below.refl _ w).alloc (Nat.le_refl _) _).trans (hb.mono (by simp))
    have hbase : w.heap.size ≤ (w.alloc (.cells #[.map (some B)] 169)).heap.size := by simp
    have HLEN : Hid (ps.length ≤ 9223372036854775807) := Nat.le_trans e3 (by omega)
    clear hnil hb e1 e2 e3 hss
    rcases hrow.2 with ⟨rfl, h0⟩ | ⟨r, cap, cur, rfl, hr1, hr2, _⟩
    · have HP : Hid (ps = []) := List.eq_nil_of_length_eq_zero h0
      clear hrow h0
      simp only []
      go_wp2_with fail
      refine (slices_Reverse_int_empty none 0 w2).mono ?_
      rintro e w3 ⟨rfl, rfl⟩
      simp only []
      go_wp2
      go_ret
      exact ⟨_, rfl, .inl ⟨by rw [HP.out]; rfl, rfl⟩, HB2.out⟩
    · have HH : Hid (Sort.Holds (Value.int .i64) w2 r 0 ps.toArray) := holds_of_row (zs := ps) hrow
      have HR : Hid (w.heap.size ≤ r) := Nat.le_trans hbase hr1
      clear hrow hr1 hr2 hbase
      simp only []
      go_wp2_with fail
      refine (slices_Reverse_int r 0 cap ps w2 HH.out HLEN.out).mono ?_
      rintro e w3 ⟨rfl, q, rfl⟩
      simp only []
      go_wp2
      go_ret
      refine ⟨_, rfl, .inr ⟨r, cap, by simp, fun i hi => ?_⟩, HB2.out.trans (putRow_below (n := q) HR.out)⟩
      have := (Sort.holds_putRow (Value.int .i64) w2 r 0 ps.toArray ps.reverse.toArray HH.out (by simp) i (by simpa using hi)).1
      rw [Nat.zero_add] at this
      refine Eq.trans this ?_
      simp at hi
      simp [hi]
  · rw [if_neg hs]
    go_enter Tryz.func118, Tryz.ntmps118
    go_wp2_with fail
    refine (keys_any (some B) _).mono ?_
    rintro e w1 ⟨rfl, rfl⟩
    simp only []
    go_wp2_with fail
    refine (sorted_any B n D w HO.out hn).mono ?_
    rintro e w2 ⟨v, ss, rfl, hss, hrow, hnil, hb⟩
    obtain ⟨e1, e2, e3⟩ := sorted_is HO.out hp.out HM.out hss
    rw [e1, e2] at hrow
    have HP := hide (prs_of rfl hrow)
    have HB2 : Hid (Below w.heap.size w w2) := ((Below.refl _ w).alloc (Nat.le_refl _) _).trans (hb.mono (by simp))
    clear hnil hb e1 e2 e3 hss hrow
    simp only []
    go_wp2
    go_ret
    exact ⟨_, rfl, HP.out, HB2.out⟩
end Go.Proofs.YtjdnahmdicamdaaGreatDoor
/- share by its contract: what a side is filled with, level by level. -/
namespace Go.Proofs.YtjdnahmdicamdaaGreatDoor
open Go.RowKit Go.Maps
set_option maxRecDepth 100000
namespace Ra
open Cv
def rowF (sh : List Lot → List Lot) (f : Int → List Lot) : List Int → Int → List Lot
  | [], _ => []
  | p :: ps, v => arr sh (f p) v ++ rowF sh f ps (v - min (tot (f p)) v)
def sfF (sh : List Lot → List Lot) (f : Int → List Lot) (ps : List Int) (v : Int) : List (Int × Int) := fill (rowF sh f ps v) v
theorem sfF_cons {sh : List Lot → List Lot} (hs : Mix sh) {f : Int → List Lot} {p : Int} (h : Pos (f p)) (ps : List Int) (v : Int) (hv : 0 ≤ v) :
    sfF sh f (p :: ps) v = fill (arr sh (f p) v) v ++ sfF sh f ps (v - min (tot (f p)) v) := by
  unfold sfF
  rw [rowF, fill_append _ _ _ (arr_pos hs h v) hv, tot_arr hs]
theorem sfF_zero (sh : List Lot → List Lot) (f : Int → List Lot) (ps : List Int) : sfF sh f ps 0 = [] := fill_zero _
theorem rowF_is (sh : List Lot → List Lot) (l : List Lot) (sd : Int) (f : Int → List Lot) : ∀ (ps : List Int) (v : Int), (∀ p ∈ ps, f p = lv l sd p) → rowF sh f ps v = row sh l sd ps v
  | [], _, _ => rfl
  | p :: ps, v, h => by
    rw [rowF, row, h p List.mem_cons_self, rowF_is sh l sd f ps _ (fun q hq => h q (List.mem_cons_of_mem _ hq))]
/-- what is left within a level, and behind it -/
def rest (sh : List Lot → List Lot) (f : Int → List Lot) (X : List Lot) (ps : List Int) (v : Int) : List (Int × Int) := fill X v ++ sfF sh f ps (v - min (tot X) v)
theorem rest_zero (sh : List Lot → List Lot) (f : Int → List Lot) (X : List Lot) (hX : Pos X) (ps : List Int) : rest sh f X ps 0 = [] := by
  have h := tot_nonneg X hX
  unfold rest
  rw [fill_zero, show (0 : Int) - min (tot X) 0 = 0 by omega, sfF_zero]; rfl
theorem rest_nil (sh : List Lot → List Lot) (f : Int → List Lot) (ps : List Int) (v : Int) (hv : 0 ≤ v) : rest sh f [] ps v = sfF sh f ps v := by
  unfold rest
  rw [show v - min (tot []) v = v by simp [tot]; omega]; rfl
theorem rest_cons (sh : List Lot → List Lot) (f : Int → List Lot) (x : Lot) (X : List Lot) (hX : Pos (x :: X)) (ps : List Int) (v : Int) (hv : 0 < v) : rest sh f (x :: X) ps v = (x.id, min x.q v) :: rest sh f X ps (v - min x.q v) := by
  have hx := hX x List.mem_cons_self
  have h := tot_nonneg X (fun y hy => hX y (List.mem_cons_of_mem _ hy))
  unfold rest
  rw [fill, if_neg (by omega), List.cons_append]
  rw [show v - min (tot (x :: X)) v = v - min x.q v - min (tot X) (v - min x.q v) by simp only [tot]; omega]
theorem drop_nth {l : List Lot} {k : Nat} (h : k < l.length) : l.drop k = nth l k :: l.drop (k + 1) := by
  unfold nth; rw [List.drop_eq_getElem_cons h, List.getD_eq_getElem?_getD, List.getElem?_eq_getElem h]; rfl
end Ra

/-- fills as cells -/
def fcells (F : List (Int × Int)) : List Value := F.flatMap fun f => [.int .i64 f.1, .int .i64 f.2]
theorem fcells_snoc (F : List (Int × Int)) (f : Int × Int) : fcells (F ++ [f]) = fcells F ++ [.int .i64 f.1, .int .i64 f.2] := by simp [fcells]
theorem info45 : ∃ i z, Tryz.prog.info? 54 = some i ∧ i.zero = some z ∧ i.size = 2 ∧ i.bytes = 16 ∧ z.cells.size = 2 := ⟨_, _, rfl, rfl, rfl, rfl, rfl⟩
theorem cell_new2 (w : World) (x y : Value) (T : TypeId) (e : Nat) (he : e = w.heap.size) (j : Nat) (u : Value) (hj : [x, y][j]? = some u) : (w.alloc (.cells #[x, y] T)).cell? ((⟨e, 0, none⟩ : Addr).add j) = some u := by
  subst he
  have hp : (⟨w.heap.size, 0, none⟩ : Addr).add j = ⟨w.heap.size, j, none⟩ := by unfold Addr.add; split <;> simp_all
  rw [hp, World.cell?_alloc_new, ← hj]
  simp
theorem rows_apart {w : World} {a b : Nat} {e e' : TypeId} {s s' : Nat} {v v' : Value} {n n' : Nat} {xs xs' : List Value} (h : w.ownsRow a e s v n xs) (h' : w.ownsRow b e' s' v' n' xs') (he : e ≠ e') : v.ownBlock = none ∨ v.ownBlock ≠ v'.ownBlock := by
  rcases h.2 with ⟨h1, _⟩ | ⟨g, cap, cur, h1, _, h2, _⟩
  · left; rw [h1]; rfl
  · right
    rcases h'.2 with ⟨k1, _⟩ | ⟨g', cap', cur', k1, _, k2, _⟩
    · rw [h1, k1]; simp [Value.ownBlock]
    · rw [h1, k1]
      intro e2
      have : g = g' := by simpa [Value.ownBlock] using e2
      rw [this, k2] at h2
      simp at h2
      exact he h2.2.symm
theorem lots_of_row {w : World} {base N cap r : Nat} {X : List Cv.Lot} (h : w.ownsRow base 56 5 (.slice (some ⟨r, 0, none⟩) N cap) N (flat X)) : LotsAt w r 0 X :=
  lotsAt_of_flat fun j u hu => by
    have := World.ownsRow.cells h (g := r) rfl j u hu
    have hp : (⟨r, 0, none⟩ : Addr).add j = ⟨r, j, none⟩ := by unfold Addr.add; split <;> simp_all
    rwa [hp] at this
theorem flat_len {w : World} {base N : Nat} {v : Value} {X : List Cv.Lot} (h : w.ownsRow base 56 5 v N (flat X)) : X.length = N := by
  have := h.1
  rw [flat_length] at this
  omega

theorem field0 (a : Option Addr) (n c : Nat) (q : Int) (w : World) : (Instr.field 188 (.agg #[.slice a n c, .int .i64 q]) 0).run Tryz.prog w = .ok (.slice a n c) w := by kernel_rfl
theorem field1 (a : Option Addr) (n c : Nat) (q : Int) (w : World) : (Instr.field 188 (.agg #[.slice a n c, .int .i64 q]) 1).run Tryz.prog w = .ok (.int .i64 q) w := by kernel_rfl

set_option maxHeartbeats 2000000 in
theorem share_of (sd v s : Int) (B base n : Nat) (f : Int → List Cv.Lot) (ps qs : List Int) (F : List (Int × Int)) (w : World) (hs : Hid (Ra.IsU s)) (hv0 : 0 ≤ v) (hv1 : v ≤ 1000000) (hL : Hid (Levels w base B n f)) (hn : n ≤ 1000)
    (hp : Hid (ps.Pairwise (· < ·))) (hm : Hid (∀ p, p ∈ ps ↔ f p ≠ [])) (hok : Hid (∀ p, Cv.Oks (f p))) (hlen : Hid (∀ p, (f p).length ≤ 200)) (hqs : Hid ((if sd = 0 then ps.reverse else ps) = qs)) (hq : Hid (∀ p ∈ qs, f p ≠ [] ∧ 1 ≤ p ∧ p ≤ 1000))
    (hF : Hid (Ra.sfF (Ra.sh s) f qs v = F)) (hFl : Hid (F.length ≤ 1000)) (hql : Hid (qs.length ≤ 1000)) :
    Calls Tryz.prog 88 #[.map (some B), .int .i64 sd, .int .i64 v, .int .u32 s] w fun e w' => ∃ v', e = .returned v' ∧ w'.ownsRow w.heap.size 54 2 v' F.length (fcells F) ∧ Below w.heap.size w w' := by
  obtain ⟨i0, z0, hi, hz0, hz1, hz2, hz3⟩ := info45
  have Hi := hide hi; have Hz0 := hide hz0; have Hz1 := hide hz1; have Hz2 := hide hz2; have Hz3 := hide hz3
  clear hi hz0 hz1 hz2 hz3
  go_enter Tryz.func88, Tryz.ntmps88
  go_wp2_with fail
  refine (bestFirst_any sd B base n f ps w hL hn hp hm).mono ?_
  rintro e w1 ⟨vp, rfl, hprs, hb1⟩
  rw [hqs.out] at hprs
  have HB1 := hide hb1
  have HL1 := hide (hL.out.later hb1)
  clear hb1 hL
  rcases hprs with ⟨hq0, rfl⟩ | ⟨bp, capp, rfl, hc⟩
  · have HF0 : Hid (F = []) := by show _ = _; rw [← hF.out, hq0]; rfl
    clear hq0
    simp only []
    go_wp2
    refine wp_loop_rounds 1 ?_
    rw [rounds_succ]
    go_wp2
    go_ret
    exact ⟨_, rfl, by rw [HF0.out]; exact World.ownsRow_nil _ _ _ _, HB1.out⟩
  · obtain ⟨m, HM⟩ : ∃ m, Hid (qs.length = m) := ⟨_, rfl⟩
    rw [HM.out] at hc ⊢
    have hm1000 : m ≤ 1000 := by rw [← HM.out]; exact hql.out
    have HC := hide hc
    clear hc
    simp only []
    go_wp2
    go_loopw [9, 10, 22] (fun vf lf i wr => ∃ (k : Nat) (left : Int) (F0 : List (Int × Int)), k ≤ m ∧ i = .int .i64 k ∧ lf = .int .i64 left ∧ 0 ≤ left ∧ left ≤ v ∧ F0 ++ Ra.sfF (Ra.sh s) f (qs.drop k) left = F ∧ wr.ownsRow w1.heap.size 54 2 vf F0.length (fcells F0) ∧ Below w1.heap.size w1 wr) (fun _ _ i _ => m - (intOf i).toNat)
    case atStart => exact ⟨0, v, [], Nat.zero_le _, rfl, rfl, hv0, Int.le_refl _, hF.out, World.ownsRow_nil _ _ _ _, Below.refl _ _⟩
    case round =>
      obtain ⟨k, left, F0, hk, rfl, rfl, hl0, hl1, hFF, hown, hbw⟩ := hrel
      have HO := hide hown; have HW := hide hbw; have HFF := hide hFF
      clear hown hbw hFF
      by_cases hlt : k < m
      · have hki : (k : Int) < m := by omega
        obtain ⟨p, hpq⟩ : ∃ p, qs.getD k 0 = p := ⟨_, rfl⟩
        have hkq : k < qs.length := by rw [HM.out]; exact hlt
        have hge : qs[k] = p := by rw [← hpq]; simp [hkq]
        have cp : wr.cell? ⟨bp, k, none⟩ = some (.int .i64 p) := by rw [← hpq]; exact cell_later HW.out (HC.out k hlt)
        have hmem : p ∈ qs := by rw [← hge]; exact List.getElem_mem hkq
        have hdrop : qs.drop k = p :: qs.drop (k + 1) := by rw [List.drop_eq_getElem_cons hkq, hge]
        obtain ⟨hne, hp1, hp2⟩ := hq.out p hmem
        obtain ⟨D, g, hLv⟩ := HL1.out.later HW.out
        have hrow := hLv.row p
        have hrun := hLv.look (p := p) (by omega) (by omega)
        rcases (hLv.row p).2 with ⟨_, e0⟩ | ⟨r, capr, cur, hgp, _⟩
        · exact absurd (List.eq_nil_of_length_eq_zero e0) hne
        have hpos : Ra.Pos (f p) := fun x hx => ((Cv.ok_bounds (hok.out p x hx)).2.2.2.2).1
        have hbnd := tot_bounds (f p) (hok.out p)
        have hln := hlen.out p
        rw [hgp] at hrow hrun
        unfold lvV at hrun
        have HNP : Hid (0 < (f p).length) := Nat.pos_of_ne_zero fun e => hne (List.eq_nil_of_length_eq_zero e)
        obtain ⟨N, hN⟩ : ∃ N, (f p).length = N := ⟨_, rfl⟩
        obtain ⟨q, hq'⟩ : ∃ q, Ra.tot (f p) = q := ⟨_, rfl⟩
        have HFX : Hid (F0 ++ Ra.rest (Ra.sh s) f (Ra.arr (Ra.sh s) (f p) left) (qs.drop (k + 1)) left = F) := by
          have h1 := HFF.out
          rw [hdrop, Ra.sfF_cons (Ra.mix_sh s) hpos _ _ hl0] at h1
          show _ = _
          unfold Ra.rest
          rw [Ra.tot_arr (Ra.mix_sh s)]
          exact h1
        have HNP : Hid (0 < N) := by rw [← hN]; exact HNP.out
        rw [hN] at hrow hrun hln hbnd
        rw [hq'] at hrun hbnd
        have HROW := hide hrow; have HN := hide hN; have HPOS := hide hpos; have HQ := hide hq'
        clear hrow hN hpos hq' hLv hne hdrop hge hpq hgp HFF
        have f0 := @field0
        have f1 := @field1
        by_cases hql : left < q
        · have hN1 : (N : Int) - 1 = ((N - 1 : Nat) : Int) := by have := HNP.out; omega
          go_wp2_with (at_lookup; refine wpList_lookup_run rfl _ _ 170 rfl _ _ _ rfl rfl hrun ?_)
          refine (drawn_some r 0 capr N (N - 1) s (f p) wr hs HN (by omega) hN1 (lots_of_row HROW.out)).mono ?_
          rintro e w2 ⟨v2, rfl, hrow2, hb2⟩
          rcases hrow2.2 with ⟨_, e0⟩ | ⟨rx, capx, cur2, rfl, _⟩
          · exact absurd e0 (by have := HNP.out; omega)
          obtain ⟨X, HXE⟩ : ∃ X, Hid (Ra.sh s (f p) = X) := ⟨_, rfl⟩
          have HFY : Hid (F0 ++ Ra.rest (Ra.sh s) f (X.drop 0) (qs.drop (k + 1)) left = F) := by
            have h1 := HFX.out
            unfold Ra.arr at h1
            rw [if_pos (by rw [HQ.out]; exact hql), HXE.out] at h1
            exact h1
          have HX : Hid (w2.ownsRow 0 56 5 (.slice (some ⟨rx, 0, none⟩) N capx) N (flat X)) := by rw [← HXE.out]; exact row_base hrow2 (Nat.zero_le _)
          have HXP : Hid (Ra.Pos X) := fun x hx => HPOS.out x ((Ra.mix_sh s (f p)).mem_iff.1 (by rw [HXE.out]; exact hx))
          have HW2 : Hid (Below w1.heap.size w1 w2) := HW.out.trans (hb2.mono HW.out.size)
          have HO2 : Hid (w2.ownsRow w1.heap.size 54 2 u9 F0.length (fcells F0)) := HO.out.kept (row := none) ⟨hb2.os, hb2.tape, hb2.output, hb2.size, fun i hi _ => hb2.block i hi⟩ (by
            cases e : u9.ownBlock with
            | none => exact .inl rfl
            | some _ => exact .inr (by simp))
          clear hrow2 hb2 hN1
          simp only []
          clear cp HROW HO HW hrun f0 f1
          go_wp2
          go_loopw [9, 10, 41] (fun vf lf i wx => ∃ (j : Nat) (lft : Int) (F1 : List (Int × Int)), j ≤ N ∧ i = .int .i64 j ∧ lf = .int .i64 lft ∧ 0 ≤ lft ∧ lft ≤ left ∧ F1 ++ Ra.rest (Ra.sh s) f (X.drop j) (qs.drop (k + 1)) lft = F ∧ wx.ownsRow w1.heap.size 54 2 vf F1.length (fcells F1) ∧ wx.ownsRow 0 56 5 (.slice (some ⟨rx, 0, none⟩) N capx) N (flat X) ∧ Below w1.heap.size w1 wx) (fun _ _ i _ => N - (intOf i).toNat)
          case atStart => exact ⟨0, left, F0, Nat.zero_le _, rfl, rfl, hl0, Int.le_refl _, HFY.out, HO2.out, HX.out, HW2.out⟩
          case round =>
            obtain ⟨j, lft, F1, hj, rfl, rfl, hf0, hf1, hFG, hown, hxr, hbw⟩ := hrel
            have HO := hide hown; have HX3 := hide hxr; have HW := hide hbw; have HFG := hide hFG
            have HXL := hide (flat_len hxr)
            clear hown hxr hbw hFG HO2 HX HW2 HFY
            by_cases hjn : j < N
            · have hji : (j : Int) < N := by omega
              obtain ⟨c0, c1, c2, c3, c4⟩ := (lots_of_row HX3.out) j (by rw [HXL.out]; exact hjn)
              have HD := hide (Ra.drop_nth (l := X) (k := j) (by rw [HXL.out]; exact hjn))
              have hxq := HXP.out _ (Cv.nth_mem (l := X) (i := j) (by rw [HXL.out]; exact hjn))
              have HDP : Hid (Ra.Pos (X.drop j)) := fun y hy => HXP.out y (List.mem_of_mem_drop hy)
              generalize Cv.nth X j = x at *
              rw [Nat.zero_add] at c0 c1 c2 c3 c4
              by_cases h0 : lft = 0
              · subst h0
                have hmin : min x.q 0 = 0 := by omega
                have HR : Hid (wr.ownsRow w.heap.size 54 2 u9 F.length (fcells F)) := by
                  have h1 := HFG.out
                  rw [Ra.rest_zero _ _ _ HDP.out, List.append_nil] at h1
                  rw [← h1]
                  exact row_base HO.out HB1.out.size
                have HB : Hid (Below w.heap.size w wr) := HB1.out.trans (HW.out.mono HB1.out.size)
                clear HO HX3 HFG HD HDP
                go_wp2
                go_ret
                exact ⟨_, rfl, HR.out.alloc _, HB.out.alloc HB.out.size _⟩
              · obtain ⟨t, ht⟩ : ∃ t, min x.q lft = t := ⟨_, rfl⟩
                have ht1 : 1 ≤ t := by omega
                have ht2 : t ≤ lft := by omega
                have htb : (t == 0) = false := by simp; omega
                have HF2 : Hid ((F1 ++ [(x.id, t)]) ++ Ra.rest (Ra.sh s) f (X.drop (j + 1)) (qs.drop (k + 1)) (lft - t) = F) := by
                  have h1 := HFG.out
                  rw [HD.out, Ra.rest_cons _ _ _ _ (by have := HDP.out; rw [HD.out] at this; exact this) _ _ (by omega), ht] at h1
                  show _ = _
                  rw [← h1]; simp
                have HLN : Hid (F1.length + 1 ≤ 1000) := by
                  have h1 := hFl.out
                  rw [← HF2.out] at h1
                  simp at h1
                  show _ ≤ _
                  omega
                clear HFG HD HDP
                go_wp2_with (at_builtin; refine wpList_append_own _ rfl _ _ 48 rfl w1.heap.size 54 i0 z0 2 16 Tryz.underlying48 Hi.out Hz0.out Hz1.out Hz2.out Hz3.out (by decide) _ _ _ rfl ((HO.out.alloc _).alloc _) ⟨wr.heap.size + 1, 0, none⟩ 1 1 [.int .i64 x.id, .int .i64 t] rfl rfl ?d1 ?d2 ?d3 ?d4 ?d5 ?_)
                case d1 => exact fun j u hj => cell_new2 _ _ _ _ _ (by simp) j u hj
                case d2 => intro u hu
                           simp only [List.mem_cons, List.not_mem_nil, or_false] at hu
                           rcases hu with rfl | rfl <;> rfl
                case d3 => have := HLN.out; unfold maxLen; omega
                case d4 => have := HLN.out; omega
                case d5 => have := HW.out.size; simp; omega
                intro v3 w3 hown' hgrow _
                have HO3 : Hid (w3.ownsRow w1.heap.size 54 2 v3 (F1 ++ [(x.id, t)]).length (fcells (F1 ++ [(x.id, t)]))) := by
                  show w3.ownsRow _ _ _ _ _ _
                  rw [fcells_snoc, List.length_append]
                  exact hown'
                have hlt3 := HO.out.lt
                have HX4 : Hid (w3.ownsRow 0 56 5 (.slice (some ⟨rx, 0, none⟩) N capx) N (flat X)) := ((HX3.out.alloc _).alloc _).kept hgrow (rows_apart HX3.out HO.out (by decide))
                have HW3 : Hid (Below w1.heap.size w1 w3) := ((HW.out.alloc HW.out.size _).alloc (by have := HW.out.size; simp; omega) _).grown hgrow (by have := HW.out.size; simp; omega) (fun j hj => (hlt3 j hj).1)
                clear hown' hgrow HO HX3 HW hlt3 c0 c1 c2 c3 c4
                go_wp2
                exact ⟨⟨j + 1, lft - t, F1 ++ [(x.id, t)], by omega, by go_num, by go_num, by omega, by omega, HF2.out, HO3.out, HX4.out, HW3.out⟩, by simp [intOf]; omega⟩
            · have hji : ¬ (j : Int) < N := by omega
              have HF2 : Hid (F1 ++ Ra.sfF (Ra.sh s) f (qs.drop (k + 1)) lft = F) := by
                have h1 := HFG.out
                rw [List.drop_of_length_le (by rw [HXL.out]; omega), Ra.rest_nil _ _ _ _ hf0] at h1
                exact h1
              clear HFG HX3
              go_wp2
              exact ⟨⟨k + 1, lft, F1, by omega, by go_num, rfl, hf0, by omega, HF2.out, HO.out, HW.out⟩, by simp [intOf]; omega⟩
        · obtain ⟨X, HXE⟩ : ∃ X, Hid (f p = X) := ⟨_, rfl⟩
          obtain ⟨rx, hrx⟩ : ∃ rx, r = rx := ⟨_, rfl⟩
          obtain ⟨capx, hcx⟩ : ∃ capx, capr = capx := ⟨_, rfl⟩
          subst hrx hcx
          have HFY : Hid (F0 ++ Ra.rest (Ra.sh s) f (X.drop 0) (qs.drop (k + 1)) left = F) := by
            have h1 := HFX.out
            unfold Ra.arr at h1
            rw [if_neg (by rw [HQ.out]; exact hql), HXE.out] at h1
            exact h1
          have HX : Hid (wr.ownsRow 0 56 5 (.slice (some ⟨r, 0, none⟩) N capr) N (flat X)) := by rw [← HXE.out]; exact row_base HROW.out (Nat.zero_le _)
          have HXP : Hid (Ra.Pos X) := fun x hx => HPOS.out x (by rw [HXE.out]; exact hx)
          have HW2 := HW
          have HO2 := HO
          go_wp2_with (at_lookup; refine wpList_lookup_run rfl _ _ 170 rfl _ _ _ rfl rfl hrun ?_)
          clear cp HROW HO HW hrun f0 f1
          go_loopw [9, 10, 41] (fun vf lf i wx => ∃ (j : Nat) (lft : Int) (F1 : List (Int × Int)), j ≤ N ∧ i = .int .i64 j ∧ lf = .int .i64 lft ∧ 0 ≤ lft ∧ lft ≤ left ∧ F1 ++ Ra.rest (Ra.sh s) f (X.drop j) (qs.drop (k + 1)) lft = F ∧ wx.ownsRow w1.heap.size 54 2 vf F1.length (fcells F1) ∧ wx.ownsRow 0 56 5 (.slice (some ⟨r, 0, none⟩) N capr) N (flat X) ∧ Below w1.heap.size w1 wx) (fun _ _ i _ => N - (intOf i).toNat)
          case atStart => exact ⟨0, left, F0, Nat.zero_le _, rfl, rfl, hl0, Int.le_refl _, HFY.out, HO2.out, HX.out, HW2.out⟩
          case round =>
            obtain ⟨j, lft, F1, hj, rfl, rfl, hf0, hf1, hFG, hown, hxr, hbw⟩ := hrel
            have HO := hide hown; have HX3 := hide hxr; have HW := hide hbw; have HFG := hide hFG
            have HXL := hide (flat_len hxr)
            clear hown hxr hbw hFG HO2 HX HW2 HFY
            by_cases hjn : j < N
            · have hji : (j : Int) < N := by omega
              obtain ⟨c0, c1, c2, c3, c4⟩ := (lots_of_row HX3.out) j (by rw [HXL.out]; exact hjn)
              have HD := hide (Ra.drop_nth (l := X) (k := j) (by rw [HXL.out]; exact hjn))
              have hxq := HXP.out _ (Cv.nth_mem (l := X) (i := j) (by rw [HXL.out]; exact hjn))
              have HDP : Hid (Ra.Pos (X.drop j)) := fun y hy => HXP.out y (List.mem_of_mem_drop hy)
              generalize Cv.nth X j = x at *
              rw [Nat.zero_add] at c0 c1 c2 c3 c4
              by_cases h0 : lft = 0
              · subst h0
                have hmin : min x.q 0 = 0 := by omega
                have HR : Hid (wr.ownsRow w.heap.size 54 2 u9 F.length (fcells F)) := by
                  have h1 := HFG.out
                  rw [Ra.rest_zero _ _ _ HDP.out, List.append_nil] at h1
                  rw [← h1]
                  exact row_base HO.out HB1.out.size
                have HB : Hid (Below w.heap.size w wr) := HB1.out.trans (HW.out.mono HB1.out.size)
                clear HO HX3 HFG HD HDP
                go_wp2
                go_ret
                exact ⟨_, rfl, HR.out.alloc _, HB.out.alloc HB.out.size _⟩
              · obtain ⟨t, ht⟩ : ∃ t, min x.q lft = t := ⟨_, rfl⟩
                have ht1 : 1 ≤ t := by omega
                have ht2 : t ≤ lft := by omega
                have htb : (t == 0) = false := by simp; omega
                have HF2 : Hid ((F1 ++ [(x.id, t)]) ++ Ra.rest (Ra.sh s) f (X.drop (j + 1)) (qs.drop (k + 1)) (lft - t) = F) := by
                  have h1 := HFG.out
                  rw [HD.out, Ra.rest_cons _ _ _ _ (by have := HDP.out; rw [HD.out] at this; exact this) _ _ (by omega), ht] at h1
                  show _ = _
                  rw [← h1]; simp
                have HLN : Hid (F1.length + 1 ≤ 1000) := by
                  have h1 := hFl.out
                  rw [← HF2.out] at h1
                  simp at h1
                  show _ ≤ _
                  omega
                clear HFG HD HDP
                go_wp2_with (at_builtin; refine wpList_append_own _ rfl _ _ 48 rfl w1.heap.size 54 i0 z0 2 16 Tryz.underlying48 Hi.out Hz0.out Hz1.out Hz2.out Hz3.out (by decide) _ _ _ rfl ((HO.out.alloc _).alloc _) ⟨wr.heap.size + 1, 0, none⟩ 1 1 [.int .i64 x.id, .int .i64 t] rfl rfl ?d1 ?d2 ?d3 ?d4 ?d5 ?_)
                case d1 => exact fun j u hj => cell_new2 _ _ _ _ _ (by simp) j u hj
                case d2 => intro u hu
                           simp only [List.mem_cons, List.not_mem_nil, or_false] at hu
                           rcases hu with rfl | rfl <;> rfl
                case d3 => have := HLN.out; unfold maxLen; omega
                case d4 => have := HLN.out; omega
                case d5 => have := HW.out.size; simp; omega
                intro v3 w3 hown' hgrow _
                have HO3 : Hid (w3.ownsRow w1.heap.size 54 2 v3 (F1 ++ [(x.id, t)]).length (fcells (F1 ++ [(x.id, t)]))) := by
                  show w3.ownsRow _ _ _ _ _ _
                  rw [fcells_snoc, List.length_append]
                  exact hown'
                have hlt3 := HO.out.lt
                have HX4 : Hid (w3.ownsRow 0 56 5 (.slice (some ⟨r, 0, none⟩) N capr) N (flat X)) := ((HX3.out.alloc _).alloc _).kept hgrow (rows_apart HX3.out HO.out (by decide))
                have HW3 : Hid (Below w1.heap.size w1 w3) := ((HW.out.alloc HW.out.size _).alloc (by have := HW.out.size; simp; omega) _).grown hgrow (by have := HW.out.size; simp; omega) (fun j hj => (hlt3 j hj).1)
                clear hown' hgrow HO HX3 HW hlt3 c0 c1 c2 c3 c4
                go_wp2
                exact ⟨⟨j + 1, lft - t, F1 ++ [(x.id, t)], by omega, by go_num, by go_num, by omega, by omega, HF2.out, HO3.out, HX4.out, HW3.out⟩, by simp [intOf]; omega⟩
            · have hji : ¬ (j : Int) < N := by omega
              have HF2 : Hid (F1 ++ Ra.sfF (Ra.sh s) f (qs.drop (k + 1)) lft = F) := by
                have h1 := HFG.out
                rw [List.drop_of_length_le (by rw [HXL.out]; omega), Ra.rest_nil _ _ _ _ hf0] at h1
                exact h1
              clear HFG HX3
              go_wp2
              exact ⟨⟨k + 1, lft, F1, by omega, by go_num, rfl, hf0, by omega, HF2.out, HO.out, HW.out⟩, by simp [intOf]; omega⟩
      · have hki : ¬ (k : Int) < m := by omega
        have HO' : Hid (wr.ownsRow w.heap.size 54 2 u9 F.length (fcells F)) := by
          have h1 := HFF.out
          rw [List.drop_of_length_le (by rw [HM.out]; omega)] at h1
          have h2 : F0 = F := by rw [← h1]; simp [Ra.sfF, Ra.rowF, Ra.fill]
          have := HO.out
          rw [h2] at this
          exact row_base this HB1.out.size
        have HB : Hid (Below w.heap.size w wr) := HB1.out.trans (HW.out.mono HB1.out.size)
        clear HO HFF
        go_wp2
        go_ret
        exact ⟨_, rfl, HO'.out, HB.out⟩
end Go.Proofs.YtjdnahmdicamdaaGreatDoor
