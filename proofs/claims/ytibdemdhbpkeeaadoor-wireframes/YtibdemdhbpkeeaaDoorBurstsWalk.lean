/- What WireBursts does, for every request, place and burst: it answers true. -/
import Derived.Test.YtibdemdhbpkeeaaDoorDecode
import Derived.Test.YtibdemdhbpkeeaaDoorCoded
import Derived.Laws.IdiomStrings
import Derived.Test.YtibdemdhbpkeeaaDoorBurst
namespace Go.Proofs.YtibdemdhbpkeeaaDoor
open Go.RowKit
set_option maxRecDepth 100000

theorem bit_cast (bu n : Nat) : ((bu : Int) / 2 ^ n).tmod 2 = ((bu / 2 ^ n % 2 : Nat) : Int) := by
  rw [Int.tmod_eq_emod_of_nonneg (Int.ediv_nonneg (by omega) (Int.pow_nonneg (by decide)))]
  push_cast
  rfl
theorem bit_true {bu n : Nat} (h : bu / 2 ^ n % 2 = 1) : (((bu : Int) / 2 ^ n).tmod 2 == 1) = true := by rw [bit_cast, h]; rfl
theorem bit_false {bu n : Nat} (h : ¬ bu / 2 ^ n % 2 = 1) : (((bu : Int) / 2 ^ n).tmod 2 == 1) = false := by
  rw [bit_cast, beq_eq_false_iff_ne]; omega
theorem Wi.flips_not {l : List UInt8} {at_ bu n : Nat} (h : ¬ (bu / 2 ^ n % 2 = 1 ∧ at_ + n < 8 * l.length)) : Wi.flips l at_ bu (n + 1) = Wi.flips l at_ bu n := by
  show (if _ then _ else _) = _; rw [if_neg h]
theorem Wi.flips_yes {l : List UInt8} {at_ bu n : Nat} (h : bu / 2 ^ n % 2 = 1 ∧ at_ + n < 8 * l.length) : Wi.flips l at_ bu (n + 1) = Wi.flip1 (Wi.flips l at_ bu n) (at_ + n) := by
  show (if _ then _ else _) = _; rw [if_pos h]

theorem flip_cell {wr : World} {bk : Nat} (l : List UInt8) (p : Nat) (_hp : p < 240) (hl : l.length = 30) (x : UInt8) (hx : l.getD (p / 8) 0 = x) (hcl : ∀ j, j < 30 → wr.cell? ⟨bk, j, none⟩ = some (.int .u8 (l.getD j 0).toNat)) :
    ∀ j, j < 30 → (wr.setCell ⟨bk, p / 8, none⟩ (.int .u8 (bits .xor .u8 x.toNat (2 ^ (p % 8) % 256)))).cell? ⟨bk, j, none⟩ = some (.int .u8 ((Wi.flip1 l p).getD j 0).toNat) := by
  intro j hj
  by_cases hjp : j = p / 8
  · subst hjp
    rw [World.cell?_setCell_same _ _ _ (hcl _ hj)]
    have hr : p % 8 < 8 := Nat.mod_lt _ (by decide)
    have h2 : 2 ^ (p % 8) < 2 ^ 8 := Nat.pow_lt_pow_right (by decide) hr
    have e1 : (2 ^ (p % 8) % 256 : Int) = ((2 ^ (p % 8) : Nat) : Int) := by
      rw [show (2 ^ (p % 8) : Int) = ((2 ^ (p % 8) : Nat) : Int) by push_cast; rfl]
      generalize 2 ^ (p % 8) = y at h2 ⊢
      omega
    have e2 : (Wi.flip1 l p).getD (p / 8) 0 = x ^^^ UInt8.ofNat (2 ^ (p % 8)) := by
      unfold Wi.flip1
      rw [hx]
      have : p / 8 < l.length := by omega
      simp [this]
    rw [e1, e2, u8_xor_nat _ _ (UInt8.toNat_lt x) (by omega), UInt8.toNat_xor, Wi.pow_byte _ hr]
  · rw [World.cell?_setCell_other _ _ _ _ (by intro h; injection h with _ h2 _; exact hjp h2.symm), hcl j hj]
    unfold Wi.flip1
    simp [Ne.symm hjp]

set_option maxHeartbeats 1000000 in
theorem bursts_walk (k c sq it sd pr q id : Int) (at_ bu : Nat) (ad : Nat → Addr) (w : World) (hs : Hid (Sent w ad)) (hat : at_ < 240) (_hbu : bu < 4294967296) (hb0 : ((bu : Int) == 0) = false)
    (hdec : ∀ l, l = Wi.flips (strOfNums (Wi.frame k c sq it sd pr q id)).data.toList at_ bu 32 → l ≠ (strOfNums (Wi.frame k c sq it sd pr q id)).data.toList → decCode ⟨l.toArray⟩ = 5)
    (h1 : Wi.kindB k = true) (h2 : Wi.boundB k c sq it sd pr q id = true) (h3 : Wi.shapeB k it sd pr q id = true) :
    Calls Tryd.prog 4 #[.agg #[.int .u8 k, .int .i64 c, .int .i64 sq, .int .i64 it, .int .i64 sd, .int .i64 pr, .int .i64 q, .int .i64 id], .int .i64 at_, .int .u32 bu] w fun e w' => e = .returned (.bool true) ∧ Below w.heap.size w w' := by
  have Hdec := hide hdec
  clear hdec
  have t1 : ¬ (at_ : Int) < 0 := by omega
  have t2 : decide ((at_ : Int) < 0) = false := by simp
  have t3 : decide ((240 : Int) ≤ at_) = false := by simp; omega
  have h30 : (strOfNums (Wi.frame k c sq it sd pr q id)).size = 30 := by rw [strOfNums_size, Wi.frame_length]
  go_enter Tryd.func4, Tryd.ntmps4
  go_wp2_with fail
  refine (framed_any _).mono ?_
  rintro e w1 ⟨rfl, hb1⟩
  obtain ⟨hc1, hf1⟩ := bcell hb1
  have HB1 : Hid (Below w.heap.size w w1) := ((Below.refl _ _).alloc (Nat.le_refl _) _).trans (hb1.mono (by simp))
  have hz1 : w.heap.size < w1.heap.size := by have := hb1.size; simp at this; omega
  go_wp2_with fail
  refine (encode_fine _ _ _ _ _ _ _ _ _ h1 h2 h3).mono ?_
  rintro e w2 ⟨rfl, hb2⟩
  have HB2 : Hid (Below w.heap.size w w2) := HB1.out.trans (hb2.mono HB1.out.size)
  clear hb1 hb2 hc1 hf1
  generalize strOfNums (Wi.frame k c sq it sd pr q id) = s at *
  have hl30 : s.data.toList.length = 30 := by simpa using h30
  have Hl30 := hide hl30; clear hl30
  have hcv := fun w => run_bytes_of_string (P := Tryd.prog) w 9 41 5 s Tryd.underlying9 Tryd.underlying41 Tryd.underlying5
  go_wp2_with fail
  clear hcv
  have hcell : ∀ j, j < 30 → ((w2.alloc (Obj.cells (bytesRow s (grownCap w2 30 0 5)) 5 ((bytesRow s (grownCap w2 30 0 5)).size, (bytesRow s (grownCap w2 30 0 5)).size + 1))).drew).cell? ⟨w2.heap.size, j, none⟩ = some (.int .u8 (s.data.toList.getD j 0).toNat) := by
    intro j hj
    rw [World.cell?_drew, World.cell?_alloc_mark]
    have h4 : j < s.size := by omega
    simp [bytesRow, Array.getElem?_append, h4]
  have hfroz : ∀ j, j < 30 → ((w2.alloc (Obj.cells (bytesRow s (grownCap w2 30 0 5)) 5 ((bytesRow s (grownCap w2 30 0 5)).size, (bytesRow s (grownCap w2 30 0 5)).size + 1))).drew).frozen? ⟨w2.heap.size, j, none⟩ = false := by
    intro j hj
    rw [World.frozen?_drew]
    unfold World.frozen?
    rw [heap_alloc_new]
    simp [bytesRow]
    omega
  have hb3 : Below w.heap.size w ((w2.alloc (Obj.cells (bytesRow s (grownCap w2 30 0 5)) 5 ((bytesRow s (grownCap w2 30 0 5)).size, (bytesRow s (grownCap w2 30 0 5)).size + 1))).drew) := (HB2.out.alloc HB2.out.size _).drew
  generalize (w2.alloc (Obj.cells (bytesRow s (grownCap w2 30 0 5)) 5 ((bytesRow s (grownCap w2 30 0 5)).size, (bytesRow s (grownCap w2 30 0 5)).size + 1))).drew = w3 at *
  generalize grownCap w2 30 0 5 = cap at *
  have hbk : w.heap.size ≤ w2.heap.size := HB2.out.size
  generalize w2.heap.size = bk at *
  have HC := hide hcell; have HF := hide hfroz; have HB3 := hide hb3; have Hbk := hide hbk
  clear hcell hfroz hb3 HB2 hbk
  go_loopw [11] (fun i wr => ∃ n : Nat, n ≤ 32 ∧ i = .int .i64 n ∧ (∀ j, j < 30 → wr.cell? ⟨bk, j, none⟩ = some (.int .u8 ((Wi.flips s.data.toList at_ bu n).getD j 0).toNat)) ∧ (∀ j, j < 30 → wr.frozen? ⟨bk, j, none⟩ = false) ∧ Below w.heap.size w wr) (fun i _ => 32 - (intOf i).toNat)
  case atStart => exact ⟨0, by omega, rfl, HC.out, HF.out, HB3.out⟩
  case round =>
    obtain ⟨n, hn, rfl, hcl, hfr, hbr⟩ := hrel
    have HCL := hide hcl; have HFR := hide hfr; have HBR := hide hbr
    clear hcl hfr hbr
    by_cases hlt : n < 32
    · have hni : (n : Int) < 32 := by omega
      by_cases hbit : bu / 2 ^ n % 2 = 1
      · have tb : (((bu : Int) / 2 ^ n).tmod 2 == 1) = true := bit_true hbit
        by_cases hk : at_ + n < 240
        · have tk : (at_ : Int) + n < 240 := by omega
          have hcj := HCL.out ((at_ + n) / 8) (by omega)
          have hfj := HFR.out ((at_ + n) / 8) (by omega)
          generalize hx : ((Wi.flips s.data.toList at_ bu n).getD ((at_ + n) / 8) 0) = x at *
          have Hx := hide hx; clear hx
          go_wp2
          have hlen : (Wi.flips s.data.toList at_ bu n).length = 30 := by rw [Wi.flips_length, Hl30.out]
          refine ⟨⟨n + 1, by omega, by go_num, ?_, ?_, ?_⟩, by simp [intOf]; omega⟩
          · rw [Wi.flips_yes ⟨hbit, by rw [Hl30.out]; omega⟩]
            exact flip_cell _ (at_ + n) hk hlen x Hx.out HCL.out
          · intro j hj
            rw [World.frozen?_setCell]
            exact HFR.out j hj
          · exact HBR.out.setCell Hbk.out _
        · have tk : ¬ (at_ : Int) + n < 240 := by omega
          go_wp2
          refine ⟨⟨n + 1, by omega, by go_num, ?_, HFR.out, HBR.out⟩, by simp [intOf]; omega⟩
          rw [Wi.flips_not (by rw [Hl30.out]; omega)]
          exact HCL.out
      · have tb : (((bu : Int) / 2 ^ n).tmod 2 == 1) = false := bit_false hbit
        go_wp2
        refine ⟨⟨n + 1, by omega, by go_num, ?_, HFR.out, HBR.out⟩, by simp [intOf]; omega⟩
        rw [Wi.flips_not (by omega)]
        exact HCL.out
    · have hni : ¬ (n : Int) < 32 := by omega
      obtain rfl : n = 32 := by omega
      have hlen : (Wi.flips s.data.toList at_ bu 32).length = 30 := by rw [Wi.flips_length, Hl30.out]
      have hcv2 : (convert 41 9 (.slice (some ⟨bk, 0, none⟩) 30 cap)).run Tryd.prog wr = .ok (.string ⟨(Wi.flips s.data.toList at_ bu 32).toArray⟩) wr := by
        have := run_convert_bytes_back (P := Tryd.prog) wr 41 9 5 ⟨bk, 0, none⟩ cap (Wi.flips s.data.toList at_ bu 32) Tryd.underlying41 Tryd.underlying5 Tryd.underlying9 (fun j hj => by
          have hj' : j < 30 := by omega
          have hp : (⟨bk, 0, none⟩ : Addr).add j = ⟨bk, j, none⟩ := by unfold Addr.add; split <;> simp_all
          rw [hp, HCL.out j hj', List.getD_eq_getElem?_getD, List.getElem?_eq_getElem hj]
          rfl)
        rwa [hlen] at this
      have Hlen := hide hlen
      have HT := hide (Hdec.out (Wi.flips s.data.toList at_ bu 32) rfl)
      clear hlen
      have HE : Hid (ByteArray.mk (Wi.flips s.data.toList at_ bu 32).toArray = s ↔ Wi.flips s.data.toList at_ bu 32 = s.data.toList) :=
        ⟨fun h => by have := congrArg (fun b : ByteArray => b.data.toList) h; simpa using this, fun h => by rw [h]⟩
      generalize Wi.flips s.data.toList at_ bu 32 = l at *
      generalize ByteArray.mk l.toArray = tt at *
      by_cases hts : tt = s
      · subst hts
        go_wp2
        go_ret
        exact ⟨rfl, HBR.out⟩
      · have te : (tt.toList == s.toList) = false := by
          refine beq_eq_false_iff_ne.2 (fun h => hts ?_)
          rw [ByteArray.toList_eq, ByteArray.toList_eq] at h
          exact ByteArray.ext (Array.ext' h)
        have Hd : Hid (decCode tt = 5) := HT.out (fun h => hts (HE.out.2 h))
        clear hts HE HT Hdec
        go_wp2_with fail
        refine (decode_any tt ad _ (hs.out.later HBR.out)).mono ?_
        rintro e w4 ⟨rfl, hb4⟩
        rw [show decAsk tt = zeroAsk by rw [decAsk, if_neg (by rw [Hd.out]; decide)], Hd.out, show errV ad 5 = .iface 104 (.pointer (some (ad 4))) from rfl, zeroAsk]
        have HB4 : Hid (Below w.heap.size w w4) := HBR.out.trans (hb4.mono HBR.out.size)
        clear hb4
        go_wp2_with fail
        refine (coded_sent 4 (by decide) ad _ (hs.out.later (HB4.out.alloc HB4.out.size _))).mono ?_
        rintro e w5 ⟨rfl, hb5⟩
        have HB5 : Hid (Below w.heap.size w w5) := (HB4.out.alloc HB4.out.size _).trans (hb5.mono (by have := HB4.out.size; simp; omega))
        obtain ⟨hc5, hf5⟩ := bcell hb5
        clear hb5 hf5
        go_wp2
        go_ret
        exact ⟨rfl, HB5.out⟩

theorem frame_right (k c sq it sd pr q id : Int) : Wi.low4 (strOfNums (Wi.frame k c sq it sd pr q id)).data.toList 26 = Wi.sum ((strOfNums (Wi.frame k c sq it sd pr q id)).data.toList.take 26) := by
  have e1 : (strOfNums (Wi.frame k c sq it sd pr q id)).data.toList.take 26 = (strOfNums (Wi.body k c sq it sd pr q id)).data.toList := by
    simp [strOfNums, Wi.frame, Wi.body, Wi.high]
  rw [e1]
  have hlt := Wi.sum_lt (strOfNums (Wi.body k c sq it sd pr q id)).data.toList
  have e2 : Wi.low4 (strOfNums (Wi.frame k c sq it sd pr q id)).data.toList 26 = (UInt8.ofNat ((Wi.sum (strOfNums (Wi.body k c sq it sd pr q id)).data.toList : Int) % 256).toNat).toNat + 256 * (UInt8.ofNat ((Wi.sum (strOfNums (Wi.body k c sq it sd pr q id)).data.toList : Int) / 256 % 256).toNat).toNat
      + 65536 * (UInt8.ofNat ((Wi.sum (strOfNums (Wi.body k c sq it sd pr q id)).data.toList : Int) / 65536 % 256).toNat).toNat + 16777216 * (UInt8.ofNat ((Wi.sum (strOfNums (Wi.body k c sq it sd pr q id)).data.toList : Int) / 16777216 % 256).toNat).toNat := by
    unfold Wi.frame
    generalize Wi.sum (strOfNums (Wi.body k c sq it sd pr q id)).data.toList = z
    simp [Wi.low4, strOfNums, Wi.body, Wi.high, Wi.low]
  rw [e2]
  generalize Wi.sum (strOfNums (Wi.body k c sq it sd pr q id)).data.toList = z at hlt ⊢
  simp only [UInt8.toNat_ofNat']
  omega

theorem bursts_fine (k c sq it sd pr q id : Int) (at_ bu : Nat) (ad : Nat → Addr) (w : World) (hs : Sent w ad) (hat : at_ < 240) (hbu : bu < 4294967296) (hb0 : bu ≠ 0) (hc : Wi.code k c sq it sd pr q id = 0) :
    Calls Tryd.prog 4 #[.agg #[.int .u8 k, .int .i64 c, .int .i64 sq, .int .i64 it, .int .i64 sd, .int .i64 pr, .int .i64 q, .int .i64 id], .int .i64 at_, .int .u32 bu] w fun e w' => e = .returned (.bool true) ∧ Below w.heap.size w w' := by
  obtain ⟨h1, h2, h3⟩ := code_zero hc
  refine bursts_walk k c sq it sd pr q id at_ bu ad w hs hat hbu (by rw [beq_eq_false_iff_ne]; omega) (fun l hl hne => ?_) h1 h2 h3
  have hlen : (strOfNums (Wi.frame k c sq it sd pr q id)).data.toList.length = 30 := by
    have := strOfNums_size (Wi.frame k c sq it sd pr q id)
    rw [Wi.frame_length] at this
    simpa using this
  have hln : l.length = 30 := by rw [hl, Wi.flips_length, hlen]
  have h30 : (ByteArray.mk l.toArray).size = 30 := by simpa [ByteArray.size] using hln
  have hlow : lowAt ⟨l.toArray⟩ 26 = Wi.low4 l 26 := rfl
  have hne2 : ¬ lowAt ⟨l.toArray⟩ 26 = Wi.sum ((ByteArray.mk l.toArray).data.toList.take 26) := by
    intro h
    apply hne
    rw [hl]
    refine Wi.burst_seen _ at_ bu hlen hat hbu (frame_right k c sq it sd pr q id) ?_
    rw [← hl]
    exact h
  unfold decCode
  rw [if_pos h30, if_neg hne2]

set_option maxHeartbeats 1000000 in
theorem bursts_out (k c sq it sd pr q id at_ bu : Int) (w : World) (h : (bu == 0) = true ∨ (bu == 0) = false ∧ (at_ < 0 ∨ ¬ at_ < 0 ∧ 240 ≤ at_)) :
    Calls Tryd.prog 4 #[.agg #[.int .u8 k, .int .i64 c, .int .i64 sq, .int .i64 it, .int .i64 sd, .int .i64 pr, .int .i64 q, .int .i64 id], .int .i64 at_, .int .u32 bu] w fun e w' => e = .returned (.bool true) ∧ Below w.heap.size w w' := by
  rcases h with h | ⟨h, h' | ⟨h', h''⟩⟩
  all_goals
    go_enter Tryd.func4, Tryd.ntmps4
    go_wp2_with fail
    refine (framed_any _).mono ?_
    rintro e w1 ⟨rfl, hb1⟩
    have HB1 : Hid (Below w.heap.size w w1) := ((Below.refl _ _).alloc (Nat.le_refl _) _).trans (hb1.mono (by simp))
    clear hb1
    go_wp2
    go_ret
    exact ⟨rfl, HB1.out⟩

set_option maxHeartbeats 1000000 in
theorem bursts_bad (k c sq it sd pr q id : Int) (at_ bu : Nat) (ad : Nat → Addr) (w : World) (hs : Hid (Sent w ad)) (hat : at_ < 240) (hb0 : ((bu : Int) == 0) = false) (hc : Hid (Wi.code k c sq it sd pr q id ≠ 0)) :
    Calls Tryd.prog 4 #[.agg #[.int .u8 k, .int .i64 c, .int .i64 sq, .int .i64 it, .int .i64 sd, .int .i64 pr, .int .i64 q, .int .i64 id], .int .i64 at_, .int .u32 bu] w fun e w' => e = .returned (.bool true) ∧ Below w.heap.size w w' := by
  have t1 : ¬ (at_ : Int) < 0 := by omega
  have t2 : decide ((at_ : Int) < 0) = false := by simp
  have t3 : decide ((240 : Int) ≤ at_) = false := by simp; omega
  go_enter Tryd.func4, Tryd.ntmps4
  go_wp2_with fail
  refine (framed_any _).mono ?_
  rintro e w1 ⟨rfl, hb1⟩
  obtain ⟨hc1, hf1⟩ := bcell hb1
  have HB1 : Hid (Below w.heap.size w w1) := ((Below.refl _ _).alloc (Nat.le_refl _) _).trans (hb1.mono (by simp))
  clear hb1
  go_wp2_with fail
  refine (encode_any _ _ _ _ _ _ _ _ ad _ (hs.out.later HB1.out)).mono ?_
  rintro e w2 ⟨rfl, hb2⟩
  have HB2 : Hid (Below w.heap.size w w2) := HB1.out.trans (hb2.mono HB1.out.size)
  rw [errV_pos ad hc.out, encText, if_neg hc.out]
  clear hb2
  go_wp2
  go_ret
  exact ⟨rfl, HB2.out⟩

theorem bursts_any (k c sq it sd pr q id at_ bu : Int) (ad : Nat → Addr) (w : World) (hs : Sent w ad) (hb1 : 0 ≤ bu) (hb2 : bu < 4294967296) :
    Calls Tryd.prog 4 #[.agg #[.int .u8 k, .int .i64 c, .int .i64 sq, .int .i64 it, .int .i64 sd, .int .i64 pr, .int .i64 q, .int .i64 id], .int .i64 at_, .int .u32 bu] w fun e w' => e = .returned (.bool true) ∧ Below w.heap.size w w' := by
  by_cases h0 : bu = 0
  · exact bursts_out _ _ _ _ _ _ _ _ _ _ w (.inl (by rw [h0]; rfl))
  · have h0' : (bu == 0) = false := beq_eq_false_iff_ne.2 h0
    by_cases h1 : at_ < 0
    · exact bursts_out _ _ _ _ _ _ _ _ _ _ w (.inr ⟨h0', .inl h1⟩)
    · by_cases h2 : 240 ≤ at_
      · exact bursts_out _ _ _ _ _ _ _ _ _ _ w (.inr ⟨h0', .inr ⟨h1, h2⟩⟩)
      · obtain ⟨a, rfl⟩ := Int.eq_ofNat_of_zero_le (show 0 ≤ at_ by omega)
        obtain ⟨b, rfl⟩ := Int.eq_ofNat_of_zero_le hb1
        by_cases hc : Wi.code k c sq it sd pr q id = 0
        · exact bursts_fine k c sq it sd pr q id a b ad w hs (by omega) (by omega) (by omega) hc
        · exact bursts_bad k c sq it sd pr q id a b ad w hs (by omega) h0' hc

end Go.Proofs.YtibdemdhbpkeeaaDoor
