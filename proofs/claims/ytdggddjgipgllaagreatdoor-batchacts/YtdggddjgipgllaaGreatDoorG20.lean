/- drawn by its contract: lots in the order of a seed; that order holds each of them once. -/
import Derived.Test.YtdggddjgipgllaaGreatDoorG10
import Derived.Test.YtdggddjgipgllaaGreatDoorG19
import Derived.Test.YtdggddjgipgllaaGreatDoorG06
namespace Go.Proofs.YtdggddjgipgllaaGreatDoor
open Go.RowKit
set_option maxRecDepth 100000
namespace Ra
theorem swp_perm (d : Array Int) (i j : Nat) (hi : i < d.size) (hj : j < d.size) : (Sort.swp d i j).toList.Perm d.toList := by
 have h := (Sort.swp_permIn d 0 d.size i j (Nat.zero_le _) hi (Nat.zero_le _) hj (Nat.le_refl _)).2.2
 have e1 : (Sort.swp d i j).extract 0 d.size = Sort.swp d i j := by
  have := Sort.size_swp d i j
  rw [← this]; simp
 rw [e1] at h
 simpa using h
theorem shuf_perm (s : Int) (n : Nat) : ∀ k, k ≤ n - 1 → (shuf s n k).toList.Perm ((List.range n).map Int.ofNat)
 | 0, _ => by simp [shuf]
 | k + 1, h => by
  have hsz := shuf_size s n k
  have h1 := Int.emod_nonneg (num s (k + 1)) (b := ((n - k : Nat) : Int)) (by omega)
  have h2 := Int.emod_lt_of_pos (num s (k + 1)) (b := ((n - k : Nat) : Int)) (by omega)
  rw [shuf]
  exact (swp_perm _ _ _ (by omega) (by omega)).trans (shuf_perm s n k (by omega))
def sh (s : Int) (l : List Cv.Lot) : List Cv.Lot := (shuf s l.length (l.length - 1)).toList.map fun i => Cv.nth l i.toNat
theorem range_nth : ∀ l : List Cv.Lot, (List.range l.length).map (Cv.nth l) = l := fun l => by
 apply List.ext_getElem?
 intro i
 rw [List.getElem?_map]
 by_cases hi : i < l.length
 ·simp [Cv.nth, hi]
 ·simp [hi]
theorem mix_sh (s : Int) : Mix (sh s) := fun l => by
 have h := (shuf_perm s l.length (l.length - 1) (Nat.le_refl _)).map fun i : Int => Cv.nth l i.toNat
 refine h.trans ?_
 rw [List.map_map]
 have e : (fun i : Int => Cv.nth l i.toNat) ∘ Int.ofNat = Cv.nth l := by funext i; simp
 rw [e, range_nth]
theorem sh_length (s : Int) (l : List Cv.Lot) : (sh s l).length = l.length := (mix_sh s l).length_eq
theorem sh_nth (s : Int) (l : List Cv.Lot) (k : Nat) (hk : k < l.length) : ∃ j : Nat, j < l.length ∧ (shuf s l.length (l.length - 1))[k]! = (j : Int) ∧ Cv.nth (sh s l) k = Cv.nth l j := by
 have hsz := shuf_size s l.length (l.length - 1)
 have hm : (shuf s l.length (l.length - 1))[k]! ∈ (shuf s l.length (l.length - 1)).toList := by
  rw [getElem!_pos _ k (by omega)]
  exact Array.getElem_mem_toList _
 have hm2 := (shuf_perm s l.length (l.length - 1) (Nat.le_refl _)).mem_iff.1 hm
 obtain ⟨j, hj, e⟩ := List.mem_map.1 hm2
 refine ⟨j, List.mem_range.1 hj, e.symm, ?_⟩
 have : Cv.nth (sh s l) k = Cv.nth l ((shuf s l.length (l.length - 1))[k]!).toNat := by
  unfold sh
  conv => lhs; unfold Cv.nth
  rw [List.getD_eq_getElem?_getD, List.getElem?_map]
  rw [getElem!_pos _ k (by omega)]
  simp [hsz, hk, Cv.nth]
 rw [this, ← e]; rfl
end Ra

theorem row_base {w : World} {a b : Nat} {e : TypeId} {size : Nat} {v : Value} {n : Nat} {xs : List Value} (h : w.ownsRow a e size v n xs) (hb : b ≤ a) : w.ownsRow b e size v n xs :=
 ⟨h.1, h.2.imp id fun ⟨g, cap, cur, h1, h2, h3⟩ => ⟨g, cap, cur, h1, Nat.le_trans hb h2, h3⟩⟩
theorem flat_snoc (l : List Cv.Lot) (x : Cv.Lot) : flat (l ++ [x]) = flat l ++ lotCells x := by simp [flat]
theorem lotCells_one (x : Cv.Lot) : ∀ u ∈ lotCells x, u.oneCell' = true := fun u hu => by
 simp only [lotCells, List.mem_cons, List.not_mem_nil, or_false] at hu
 rcases hu with rfl | rfl | rfl | rfl | rfl <;> rfl

set_option maxHeartbeats 1000000 in
theorem drawn_some (b off cap n m : Nat) (s : Int) (l : List Cv.Lot) (w : World) (hs : Hid (Ra.IsU s)) (hn : Hid (l.length = n)) (hn' : n ≤ 200) (hm : (n : Int) - 1 = m) (hl : Hid (LotsAt w b off l)) :
  Calls Tryz.prog 119 #[.slice (some ⟨b, off, none⟩) n cap, .int .u32 s] w fun e w' => ∃ v, e = .returned v ∧ w'.ownsRow w.heap.size 56 5 v n (flat (Ra.sh s l)) ∧ Below w.heap.size w w' := by
 obtain ⟨i0, z0, hi, hz0, hz1, hz2, hz3⟩ := info43
 have Hi := hide hi; have Hz0 := hide hz0; have Hz1 := hide hz1; have Hz2 := hide hz2; have Hz3 := hide hz3
 clear hi hz0 hz1 hz2 hz3
 go_enter Tryz.func119, Tryz.ntmps119
 go_wp2_with fail
 refine (shuffle_any s n m hs (by omega) hm w).mono ?_
 rintro e w1 ⟨v1, rfl, ho, hb1⟩
 have HB1 := hide hb1
 have hsz : (Ra.shuf s n m).size = n := Ra.shuf_size s n m
 rcases ho with ⟨h0, _⟩ | ⟨g, cap1, rfl, _, hg2, hc⟩
 ·omega
 rw [hsz] at hc ⊢
 have HC := hide hc; have HG := hide hg2
 clear hb1 hc hg2 hsz
 have HD : Hid (l.length - 1 = m) := by show _ = _; rw [hn.out]; omega
 simp only []
 go_wp2
 go_loopw [5, 13] (fun v i wr => ∃ k : Nat, k ≤ n ∧ i = .int .i64 k ∧ wr.ownsRow w1.heap.size 56 5 v k (flat ((Ra.sh s l).take k)) ∧ Below w1.heap.size w1 wr) (fun _ i _ => n - (intOf i).toNat)
 case atStart => exact ⟨0, Nat.zero_le _, rfl, World.ownsRow_nil _ _ _ _, Below.refl _ _⟩
 case round =>
  obtain ⟨k, hk, rfl, hown, hbw⟩ := hrel
  have HB := hide (HB1.out.trans (hbw.mono HB1.out.size)); have HO := hide hown; have HW := hide hbw
  clear hown hbw
  by_cases hlt : k < n
  ·have hki : (k : Int) < n := by omega
   obtain ⟨j, hj, ej, enth⟩ := Ra.sh_nth s l k (by rw [hn.out]; exact hlt)
   rw [HD.out, hn.out] at ej
   rw [hn.out] at hj
   have hji : (j : Int) < n := by omega
   have cg : wr.cell? ⟨g, k, none⟩ = some (.int .i64 (j : Int)) := by rw [← ej]; exact cell_later HW.out (HC.out k hlt)
   obtain ⟨c0, c1, c2, c3, c4⟩ := (hl.out.later HB.out) j (by rw [hn.out]; exact hj)
   have HT : Hid ((Ra.sh s l).take (k + 1) = (Ra.sh s l).take k ++ [Cv.nth l j]) := by
    show _ = _
    rw [Cv.take_succ (by rw [Ra.sh_length, hn.out]; exact hlt), enth]
   clear ej enth
   generalize Cv.nth l j = x at *
   go_wp2_with (at_builtin; refine wpList_append_own _ rfl _ _ 37 rfl w1.heap.size 56 i0 z0 5 40 Tryz.underlying37 Hi.out Hz0.out Hz1.out Hz2.out Hz3.out (by decide) _ _ _ rfl (HO.out.alloc _) ⟨wr.heap.size, 0, none⟩ 1 1 (lotCells x) rfl rfl ?c1 ?c2 ?c3 ?c4 ?c5 ?_)
   case c1 => exact fun j u hj => cell_new5 wr x _ _ rfl j u hj
   case c2 => exact lotCells_one x
   case c3 => unfold maxLen; omega
   case c4 => omega
   case c5 => have := HW.out.size; simp; omega
   intro v3 w3 hown' hgrow _
   have HO3 : Hid (w3.ownsRow w1.heap.size 56 5 v3 (k + 1) (flat ((Ra.sh s l).take (k + 1)))) := by
    show w3.ownsRow _ _ _ _ _ _
    rw [HT.out, flat_snoc]
    exact hown'
   have hrow := HO.out.lt
   have HW3 : Hid (Below w1.heap.size w1 w3) := (HW.out.alloc HW.out.size _).grown hgrow (by have := HW.out.size; simp; omega) (fun j hj => (hrow j hj).1)
   clear hown' hgrow HO HB hrow HW
   go_wp2
   exact ⟨⟨k + 1, by omega, by go_num, HO3.out, HW3.out⟩, by simp [intOf]; omega⟩
  ·have hki : ¬ (k : Int) < n := by omega
   obtain rfl : k = n := by omega
   have HO' : Hid (wr.ownsRow w.heap.size 56 5 u5 k (flat (Ra.sh s l))) := by
    have := HO.out
    rw [List.take_of_length_le (by rw [Ra.sh_length, hn.out]; omega)] at this
    exact row_base this HB1.out.size
   clear HO
   go_wp2
   go_ret
   exact ⟨_, rfl, HO'.out, HB.out⟩
set_option maxHeartbeats 400000 in
theorem level_some (g : Addr) (n cap : Nat) (sd p : Int) (l : List Cv.Lot) (w : World) (hn : Hid (l.length = n)) (hn' : n ≤ 200) (hl : Hid (ArgAt w g l)) :
  Calls Tryz.prog 128 #[.slice (some g) n cap, .int .i64 sd, .int .i64 p] w fun e w' => ∃ v, e = .returned v ∧ w'.ownsRow w.heap.size 56 5 v (Ra.lv l sd p).length (flat (Ra.lv l sd p)) ∧ Below w.heap.size w w' := by
 obtain ⟨i0, z0, hi, hz0, hz1, hz2, hz3⟩ := info43
 have Hi := hide hi; have Hz0 := hide hz0; have Hz1 := hide hz1; have Hz2 := hide hz2; have Hz3 := hide hz3
 clear hi hz0 hz1 hz2 hz3
 go_enter Tryz.func128, Tryz.ntmps128
 go_wp2
 go_loopw [7, 8] (fun v i wr => ∃ k : Nat, k ≤ n ∧ i = .int .i64 k ∧ wr.ownsRow w.heap.size 56 5 v (Ra.lv (l.take k) sd p).length (flat (Ra.lv (l.take k) sd p)) ∧ Below w.heap.size w wr) (fun _ i _ => n - (intOf i).toNat)
 case atStart => exact ⟨0, Nat.zero_le _, rfl, World.ownsRow_nil _ _ _ _, Below.refl _ _⟩
 case round =>
  obtain ⟨k, hk, rfl, hown, hb⟩ := hrel
  have HB := hide hb; have HO := hide hown
  clear hb hown
  by_cases hlt : k < n
  ·have hki : (k : Int) < n := by omega
   obtain ⟨c0, c1, c2, c3, c4⟩ := (hl.out.later HB.out) k (by rw [hn.out]; exact hlt)
   have HT := hide (Cv.take_succ (l := l) (i := k) (by rw [hn.out]; exact hlt))
   have HLN : Hid ((Ra.lv (l.take k) sd p).length ≤ 200) := Nat.le_trans (List.length_filter_le _ _) (by rw [List.length_take]; omega)
   generalize Cv.nth l k = x at *
   have skip : (x.sd == sd && x.pr == p) = false → Hid (wr.ownsRow w.heap.size 56 5 u7 (Ra.lv (l.take (k + 1)) sd p).length (flat (Ra.lv (l.take (k + 1)) sd p))) := fun h => by
    have e : Ra.lv (l.take (k + 1)) sd p = Ra.lv (l.take k) sd p := by
     rw [HT.out]; unfold Ra.lv; rw [List.filter_append]; simp [h]
    show World.ownsRow _ _ _ _ _ _ _
    rw [e]; exact HO.out
   by_cases hs : x.sd = sd
   ·by_cases hp : x.pr = p
    ·have HE : Hid (Ra.lv (l.take (k + 1)) sd p = Ra.lv (l.take k) sd p ++ [x]) := by
      show _ = _
      rw [HT.out]; unfold Ra.lv; rw [List.filter_append]; simp [hs, hp]
     generalize Ra.lv (l.take k) sd p = X at *
     clear skip HT
     go_wp2_with (at_builtin; refine wpList_append_own _ rfl _ _ 37 rfl w.heap.size 56 i0 z0 5 40 Tryz.underlying37 Hi.out Hz0.out Hz1.out Hz2.out Hz3.out (by decide) _ _ _ rfl (HO.out.alloc _) ⟨wr.heap.size, 0, none⟩ 1 1 (lotCells x) rfl rfl ?c1 ?c2 ?c3 ?c4 ?c5 ?_)
     case c1 => exact fun j u hj => by have := cell_new5 wr x 56 _ rfl j u hj; rwa [hs, hp] at this
     case c2 => exact lotCells_one x
     case c3 => have := HLN.out; unfold maxLen; omega
     case c4 => have := HLN.out; omega
     case c5 => have := HB.out.size; simp; omega
     intro v3 w3 hown' hgrow _
     have HO3 : Hid (w3.ownsRow w.heap.size 56 5 v3 (Ra.lv (l.take (k + 1)) sd p).length (flat (Ra.lv (l.take (k + 1)) sd p))) := by
      show w3.ownsRow _ _ _ _ _ _
      rw [HE.out, flat_snoc, List.length_append]
      exact hown'
     have hrow := HO.out.lt
     have HB3 : Hid (Below w.heap.size w w3) := (HB.out.alloc HB.out.size _).grown hgrow (by have := HB.out.size; simp; omega) (fun j hj => (hrow j hj).1)
     clear hown' hgrow HO HB hrow HE
     go_wp2
     exact ⟨⟨k + 1, by omega, by go_num, HO3.out, HB3.out⟩, by simp [intOf]; omega⟩
    ·have HO3 := skip (by simp [hp])
     have hpb : (x.pr == p) = false := by simpa using hp
     clear skip HO HT
     go_wp2
     exact ⟨⟨k + 1, by omega, by go_num, HO3.out, HB.out⟩, by simp [intOf]; omega⟩
   ·have HO3 := skip (by simp [hs])
    clear skip HO HT
    go_wp2
    exact ⟨⟨k + 1, by omega, by go_num, HO3.out, HB.out⟩, by simp [intOf]; omega⟩
  ·have hki : ¬ (k : Int) < n := by omega
   have HO' : Hid (wr.ownsRow w.heap.size 56 5 u7 (Ra.lv l sd p).length (flat (Ra.lv l sd p))) := by
    have := HO.out
    rwa [show l.take k = l from List.take_of_length_le (by rw [hn.out]; omega)] at this
   clear HO
   go_wp2
   go_ret
   exact ⟨_, rfl, HO'.out, HB.out⟩
theorem level_none (a : Option Addr) (cap : Nat) (sd p : Int) (w : World) :
  Calls Tryz.prog 128 #[.slice a 0 cap, .int .i64 sd, .int .i64 p] w fun e w' => ∃ v, e = .returned v ∧ w'.ownsRow w.heap.size 56 5 v (Ra.lv [] sd p).length (flat (Ra.lv [] sd p)) ∧ Below w.heap.size w w' := by
 go_enter Tryz.func128, Tryz.ntmps128
 go_wp2
 refine wp_loop_rounds 1 ?_
 rw [rounds_succ]
 go_wp2
 go_ret
 exact ⟨_, rfl, World.ownsRow_nil _ _ _ _, Below.refl _ _⟩
theorem level_any (v : Value) (sd p : Int) (l : List Cv.Lot) (w : World) (hv : Came w v l) (hn : l.length ≤ 200) :
  Calls Tryz.prog 128 #[v, .int .i64 sd, .int .i64 p] w fun e w' => ∃ v, e = .returned v ∧ w'.ownsRow w.heap.size 56 5 v (Ra.lv l sd p).length (flat (Ra.lv l sd p)) ∧ Below w.heap.size w w' := by
 rcases hv with ⟨rfl, a, cap, rfl⟩ | ⟨g, cap, rfl, hl⟩
 ·exact level_none a cap sd p w
 ·exact level_some g _ cap sd p l w rfl hn hl

set_option maxHeartbeats 1000000 in
theorem shuffleOf_pos (s : Int) (n : Nat) (hs : Hid (Ra.IsU s)) (hn' : n ≤ 1000) (hn0 : 0 < n) (w : World) :
  Calls Tryz.prog 129 #[.int .i64 (n : Int), .int .u32 s] w fun e w' => ∃ v, e = .returned v ∧ Order w' w.heap.size v (Ra.shuf s n (n - 1)) ∧ Below w.heap.size w w' := by
 obtain ⟨i0, hi, hz0, hz1, hz2⟩ := info3
 have Hi := hide hi; have Hz0 := hide hz0; have Hz1 := hide hz1; have Hz2 := hide hz2
 clear hi hz0 hz1 hz2
 have hmin : ¬ (1000 : Int) < n := by omega
 go_enter Tryz.func129, Tryz.ntmps129
 go_wp2
 go_loopw [5, 6] (fun v i wr => ∃ k : Nat, k ≤ n ∧ i = .int .i64 k ∧ wr.ownsRow w.heap.size 3 1 v k (upto k) ∧ Below w.heap.size w wr) (fun _ i _ => n - (intOf i).toNat)
 case atStart => exact ⟨0, Nat.zero_le _, rfl, World.ownsRow_nil _ _ _ _, Below.refl _ _⟩
 case round =>
  obtain ⟨k, hk, rfl, hown, hb⟩ := hrel
  have HB := hide hb; have HO := hide hown
  clear hb hown
  by_cases hlt : k < n
  ·have hki : (k : Int) < n := by omega
   go_wp2_with (at_builtin; refine wpList_append_own _ rfl _ _ 144 rfl w.heap.size 3 i0 (.int .i64 0) 1 8 Tryz.underlying144 Hi.out Hz0.out Hz1.out Hz2.out rfl (by decide) _ _ _ rfl (HO.out.alloc _) ⟨wr.heap.size, 0, none⟩ 1 1 [.int .i64 (k : Int)] rfl rfl ?c1 ?c2 ?c3 ?c4 ?c5 ?_)
   case c1 => exact fun j u hj => cell_new1 wr _ _ u j _ rfl hj
   case c2 => intro u hu; have hu : u = .int .i64 (k : Int) := (by simpa using hu); rw [hu]; rfl
   case c3 => unfold maxLen; omega
   case c4 => omega
   case c5 => have := HB.out.size; simp; omega
   intro v3 w3 hown' hgrow _
   have HO3 : Hid (w3.ownsRow w.heap.size 3 1 v3 (k + 1) (upto (k + 1))) := by
    show w3.ownsRow _ _ _ _ _ _
    rw [upto_succ]
    exact hown'
   have hrow := HO.out.lt
   have HB3 : Hid (Below w.heap.size w w3) := (HB.out.alloc HB.out.size _).grown hgrow (by have := HB.out.size; simp; omega) (fun j hj => (hrow j hj).1)
   clear hown' hgrow HO HB hrow
   go_wp2
   exact ⟨⟨k + 1, by omega, by go_num, HO3.out, HB3.out⟩, by simp [intOf]; omega⟩
  ·have hki : ¬ (k : Int) < n := by omega
   obtain rfl : k = n := by omega
   have hown := HO.out
   rcases hown.2 with ⟨rfl, e2⟩ | ⟨g, cap, cur, rfl, hg1, hg2, _⟩
   ·exact absurd e2 (by omega)
   ·have hgl : g < wr.heap.size := (Array.getElem?_eq_some_iff.1 hg2).1
    have HH : Hid (Sort.Holds (Value.int .i64) wr g 0 (Ra.shuf s k 0)) := holds_of_row (zs := (List.range k).map Int.ofNat) (by simpa [upto, Function.comp_def] using hown)
    have HG : Hid (w.heap.size ≤ g ∧ g < wr.heap.size) := ⟨hg1, hgl⟩
    clear HO hown hg1 hg2 hgl
    obtain ⟨w1, hw1⟩ : ∃ w1, w1 = wr := ⟨_, rfl⟩
    subst hw1
    obtain ⟨m, hm⟩ : ∃ m : Nat, (k : Int) - 1 = m := ⟨k - 1, by omega⟩
    have HM : Hid (k - 1 = m) := by show _ = _; omega
    have HMK : Hid (k = m + 1) := by show _ = _; omega
    go_wp2_with fail
    refine (seedOf_any s w1).mono ?_
    rintro e w2 ⟨rfl, rfl⟩
    simp only []
    go_wp2
    go_loopw [7, 8] (fun xv iv wx => ∃ (j : Nat) (i : Nat), i + j = m ∧ xv = .int .u32 (Ra.num s j) ∧ iv = .int .i64 i ∧ wx = Sort.putRow (Value.int .i64) w2 g 0 (Ra.shuf s k j)) (fun _ iv _ => (intOf iv).toNat)
    case atStart => exact ⟨0, m, by omega, rfl, rfl, (Sort.putRow_self _ _ _ _ _ HH.out).symm⟩
    case round =>
     obtain ⟨j, i, hij, rfl, rfl, hwx⟩ := hrel
     have HX := hide hwx
     by_cases hlt : 0 < i
     ·have hii : (0 : Int) < i := by omega
      have hil : i < 1000 := by omega
      have hik : (i : Int) < k := by omega
      obtain ⟨x, hx⟩ : ∃ x, Ra.num s (j + 1) = x := ⟨_, rfl⟩
      obtain ⟨hx0, hx1⟩ : Ra.IsU x := by rw [← hx]; exact Ra.num_u hs.out _
      obtain ⟨t, ht⟩ : ∃ t : Nat, x % ((i : Int) + 1) = t := ⟨(x % ((i : Int) + 1)).toNat, by have := Int.emod_nonneg x (b := (i : Int) + 1) (by omega); omega⟩
      have htl : t ≤ i := by have := Int.emod_lt_of_pos x (b := (i : Int) + 1) (by omega); omega
      have htk : (t : Int) < k := by omega
      have Hsz := Ra.shuf_size s k j
      have hH := Sort.holds_putRow (Value.int .i64) w2 g 0 (Ra.shuf s k 0) (Ra.shuf s k j) HH.out (by rw [Ra.shuf_size, Ra.shuf_size])
      obtain ⟨ci, fi⟩ := hH i (by rw [Hsz]; omega)
      obtain ⟨ct, ft⟩ := hH t (by rw [Hsz]; omega)
      obtain ⟨xi, hxi⟩ : ∃ y, (Ra.shuf s k j)[i]! = y := ⟨_, rfl⟩
      obtain ⟨xt, hxt⟩ : ∃ y, (Ra.shuf s k j)[t]! = y := ⟨_, rfl⟩
      rw [Nat.zero_add, hxi, ← hwx] at ci
      rw [Nat.zero_add, hxt, ← hwx] at ct
      rw [Nat.zero_add, ← hwx] at fi ft
      have HXE := hide hx; have HT := hide ht; have HXI := hide hxi; have HXT := hide hxt; have HSZ := hide Hsz
      have HS2 : Hid ((wr.setCell ⟨g, i, none⟩ (.int .i64 xt)).setCell ⟨g, t, none⟩ (.int .i64 xi) = Sort.putRow (Value.int .i64) w2 g 0 (Ra.shuf s k (j + 1))) := by
       show _ = _
       have e1 : Ra.shuf s k (j + 1) = Sort.swp (Ra.shuf s k j) i t := by
        have h1 : k - 1 - j = i := by omega
        have h2 : ((k - j : Nat) : Int) = (i : Int) + 1 := by omega
        rw [Ra.shuf, h1, h2, HXE.out, HT.out, Int.toNat_natCast]
       have := Sort.putRow_swp (Value.int .i64) w2 g 0 (Ra.shuf s k j) i t (by rw [HSZ.out]; omega) (by rw [HSZ.out]; omega)
       rw [HXI.out, HXT.out, Nat.zero_add, Nat.zero_add, ← hwx] at this
       rw [e1, this]
      have HN := hide (nextOf_any (Ra.num s j) (Ra.num_u hs.out j) wr)
      have HNX : Hid (Ra.nxt (Ra.num s j) = x) := HXE.out
      clear hwx hx hxi hxt Hsz hH
      by_cases hit : t = i
      ·subst hit
       have hxx : xi = xt := by rw [← HXI.out, ← HXT.out]
       subst hxx
       have cs : (wr.setCell ⟨g, t, none⟩ (.int .i64 xi)).cell? ⟨g, t, none⟩ = some (.int .i64 xi) := World.cell?_setCell_same _ _ _ ct
       go_wp2_with fail
       refine HN.out.mono ?_
       rintro e w3 ⟨rfl, rfl⟩
       rw [HNX.out]
       simp only []
       go_wp2
       exact ⟨⟨j + 1, t - 1, by omega, by rw [HXE.out], by go_num, HS2.out⟩, by simp [intOf]; omega⟩
      ·have cs : (wr.setCell ⟨g, i, none⟩ (.int .i64 xt)).cell? ⟨g, t, none⟩ = some (.int .i64 xt) := by
        rw [World.cell?_setCell_other _ _ _ _ (by intro e; injection e with _ e2; exact hit e2.symm)]; exact ct
       go_wp2_with fail
       refine HN.out.mono ?_
       rintro e w3 ⟨rfl, rfl⟩
       rw [HNX.out]
       simp only []
       go_wp2
       exact ⟨⟨j + 1, i - 1, by omega, by rw [HXE.out], by go_num, HS2.out⟩, by simp [intOf]; omega⟩
     ·have hii : ¬ (0 : Int) < i := by omega
      obtain rfl : j = m := by omega
      have hH := Sort.holds_putRow (Value.int .i64) w2 g 0 (Ra.shuf s k 0) (Ra.shuf s k j) HH.out (by rw [Ra.shuf_size, Ra.shuf_size])
      have HB2 : Hid (Below w.heap.size w wr) := HB.out.trans (by rw [hwx]; exact putRow_below (n := 0) HG.out.1)
      have HR : Hid (Order wr w.heap.size (.slice (some ⟨g, 0, none⟩) k cap) (Ra.shuf s k (k - 1))) := by
       show Order _ _ _ _
       rw [HM.out]
       refine .inr ⟨g, cap, by rw [Ra.shuf_size], HG.out.1, Nat.lt_of_lt_of_le HG.out.2 ?_, fun i hi => ?_⟩
       ·rw [hwx]; exact (putRow_below (B := 0) (n := 0) (Nat.zero_le _)).size
       ·have := (hH i hi).1
        rw [Nat.zero_add] at this
        rw [hwx]; exact this
      clear hwx hH
      go_wp2
      go_ret
      exact ⟨_, rfl, HR.out, HB2.out⟩
theorem shuffleOf_zero (s : Int) (w : World) :
  Calls Tryz.prog 129 #[.int .i64 0, .int .u32 s] w fun e w' => e = .returned (.slice none 0 0) ∧ w' = w := by
 go_enter Tryz.func129, Tryz.ntmps129
 go_wp2
 refine wp_loop_rounds 1 ?_
 rw [rounds_succ]
 go_wp2_with fail
 refine (seedOf_any s w).mono ?_
 rintro e w1 ⟨rfl, rfl⟩
 simp only []
 go_wp2
 refine wp_loop_rounds 1 ?_
 rw [rounds_succ]
 go_wp2
 go_ret
 exact ⟨rfl, rfl⟩
theorem shuffleOf_any (s : Int) (n : Nat) (hs : Ra.IsU s) (hn' : n ≤ 1000) (w : World) :
  Calls Tryz.prog 129 #[.int .i64 (n : Int), .int .u32 s] w fun e w' => ∃ v, e = .returned v ∧ Order w' w.heap.size v (Ra.shuf s n (n - 1)) ∧ Below w.heap.size w w' := by
 rcases Nat.eq_zero_or_pos n with rfl | h
 ·exact (shuffleOf_zero s w).mono fun e w' ⟨h1, h2⟩ => ⟨_, h1, .inl ⟨Ra.shuf_size s 0 _, rfl⟩, h2 ▸ Below.refl _ _⟩
 ·exact shuffleOf_pos s n hs hn' h w
end Go.Proofs.YtdggddjgipgllaaGreatDoor
