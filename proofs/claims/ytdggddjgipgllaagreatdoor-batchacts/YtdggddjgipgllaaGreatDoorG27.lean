/- SameLots, sameLevels, and the document's Owner and Levels of a book, by their contracts. -/
import Derived.Test.YtdggddjgipgllaaGreatDoorG25
import Derived.Test.YtdggddjgipgllaaGreatDoorG06
import Derived.Test.YtdggddjgipgllaaGreatDoorG26
namespace Go.Proofs.YtdggddjgipgllaaGreatDoor
open Go.RowKit
set_option maxRecDepth 100000

set_option maxHeartbeats 1000000 in
theorem mownerR_some (p base g cap n : Nat) (ow : Int) (l : List Cv.Lot) (w : World) (hb : Hid (MBook w base p (.slice (some ⟨g, 0, none⟩) n cap) l)) (hn : Hid (l.length = n)) (hn' : n ≤ 60) (hl : Hid (LotsAt w g 0 l)) :
  Calls Tryz.prog 67 #[.pointer (some ⟨p, 0, none⟩), .int .i64 ow] w fun e w' => ∃ v, e = .returned v ∧ w'.ownsRow w.heap.size 3 1 v (Bk.ids l ow).length (iV (Bk.ids l ow)) ∧ Below w.heap.size w w' := by
 have HCE := hide (cell_of_one hb.out.cell)
 have hpl := hb.out.lt
 obtain ⟨i0, hi, hz0, hz1, hz2⟩ := info3
 have Hi := hide hi; have Hz0 := hide hz0; have Hz1 := hide hz1; have Hz2 := hide hz2
 clear hi hz0 hz1 hz2
 go_enter Tryz.func67, Tryz.ntmps67
 go_wp2
 go_loopw [5, 6] (fun v i wr => ∃ (k : Nat) (zs : List Int), k ≤ n ∧ i = .int .i64 k ∧ zs = Bk.ids (l.take k) ow ∧ wr.ownsRow w.heap.size 3 1 v zs.length (iV zs) ∧ Below w.heap.size w wr) (fun _ i _ => n - (intOf i).toNat)
 case atStart => exact ⟨0, [], Nat.zero_le _, rfl, rfl, World.ownsRow_nil _ _ _ _, Below.refl _ _⟩
 case round =>
  obtain ⟨k, zs, hk, rfl, hzs, hown, hbl⟩ := hrel
  have HZ := hide hzs; have HB := hide hbl; have HO := hide hown
  clear hzs hown hbl
  have hcell := cell_later HB.out HCE.out
  by_cases hlt : k < n
  ·have hki : (k : Int) < n := by omega
   obtain ⟨c0, c1, c2, c3, c4⟩ := (hl.out.later HB.out) k (by rw [hn.out]; exact hlt)
   simp only [Nat.zero_add] at c0 c1 c2 c3 c4
   have HT := hide (Cv.take_succ (l := l) (i := k) (by rw [hn.out]; exact hlt))
   generalize Cv.nth l k = x at *
   have HLZ : Hid (zs.length ≤ 60) := by
    have := Bk.ids_length (l.take k) ow
    rw [← HZ.out, List.length_take] at this
    show _ ≤ _
    omega
   by_cases hs : x.ow = ow
   ·have hsb : (x.ow == ow) = true := by simp [hs]
    have HZ' : Hid (zs ++ [x.id] = Bk.ids (l.take (k + 1)) ow) := by show _ = _; rw [HT.out, Bk.ids_snoc, if_pos hs, HZ.out]
    clear hs
    go_wp2_with (at_builtin; refine wpList_append_own _ rfl _ _ 144 rfl w.heap.size 3 i0 (.int .i64 0) 1 8 Tryz.underlying144 Hi.out Hz0.out Hz1.out Hz2.out rfl (by decide) _ _ _ rfl (HO.out.alloc _) ⟨wr.heap.size, 0, none⟩ 1 1 [.int .i64 x.id] rfl rfl ?c1 ?c2 ?c3 ?c4 ?c5 ?_)
    case c1 => exact fun j u hj => cell_new1 wr #[.int .i64 x.id] 3 u j _ rfl hj
    case c2 => intro u hu; have hu : u = .int .i64 x.id := (by simpa using hu); rw [hu]; rfl
    case c3 => have := HLZ.out; unfold maxLen; omega
    case c4 => have := HLZ.out; omega
    case c5 => have := HB.out.size; simp; omega
    intro v3 w3 hown' hgrow _
    have HO3 : Hid (w3.ownsRow w.heap.size 3 1 v3 (zs ++ [x.id]).length (iV (zs ++ [x.id]))) := by
     show w3.ownsRow _ _ _ _ _ _
     rw [List.length_append]
     simpa [iV] using hown'
    have hlt3 := HO.out.lt
    have HB3 : Hid (Below w.heap.size w w3) := (HB.out.alloc HB.out.size _).grown hgrow (by have := HB.out.size; simp; omega) (fun j hj => (hlt3 j hj).1)
    clear hown' hgrow HO hlt3
    go_wp2
    exact ⟨⟨k + 1, zs ++ [x.id], by omega, by go_num, HZ'.out, HO3.out, HB3.out⟩, by simp [intOf]; omega⟩
   ·have hsb : (x.ow == ow) = false := by simp [hs]
    have HZ' : Hid (zs = Bk.ids (l.take (k + 1)) ow) := by show _ = _; rw [HT.out, Bk.ids_snoc, if_neg hs, List.append_nil, HZ.out]
    clear hs
    go_wp2
    exact ⟨⟨k + 1, zs, by omega, by go_num, HZ'.out, HO.out, HB.out⟩, by simp [intOf]; omega⟩
  ·have hki : ¬ (k : Int) < n := by omega
   have hz := HZ.out
   rw [List.take_of_length_le (by rw [hn.out]; omega)] at hz
   have HZ' := hide hz
   clear hz
   go_wp2
   go_ret
   exact ⟨_, rfl, by rw [← HZ'.out]; exact HO.out, HB.out⟩
theorem mownerR_none (p base : Nat) (ow : Int) (w : World) (hb : Hid (MBook w base p (.slice none 0 0) [])) :
  Calls Tryz.prog 67 #[.pointer (some ⟨p, 0, none⟩), .int .i64 ow] w fun e w' => ∃ v, e = .returned v ∧ w'.ownsRow w.heap.size 3 1 v (Bk.ids [] ow).length (iV (Bk.ids [] ow)) ∧ Below w.heap.size w w' := by
 have hcell := cell_of_one hb.out.cell
 go_enter Tryz.func67, Tryz.ntmps67
 go_wp2
 refine wp_loop_rounds 1 ?_
 rw [rounds_succ]
 go_wp2
 go_ret
 exact ⟨_, rfl, World.ownsRow_nil _ _ _ _, Below.refl _ _⟩
theorem mownerR_any (p base : Nat) (v : Value) (ow : Int) (l : List Cv.Lot) (w : World) (hb : Hid (MBook w base p v l)) (hn : Hid (l.length ≤ 60)) :
  Calls Tryz.prog 67 #[.pointer (some ⟨p, 0, none⟩), .int .i64 ow] w fun e w' => ∃ v, e = .returned v ∧ w'.ownsRow w.heap.size 3 1 v (Bk.ids l ow).length (iV (Bk.ids l ow)) ∧ Below w.heap.size w w' := by
 rcases hb.out.form with ⟨rfl, rfl⟩ | ⟨g, cap, rfl, hle, _, hl⟩
 ·exact mownerR_none p base ow w hb
 ·exact mownerR_some p base g cap _ ow l w hb rfl hn.out hl

end Go.Proofs.YtdggddjgipgllaaGreatDoor
