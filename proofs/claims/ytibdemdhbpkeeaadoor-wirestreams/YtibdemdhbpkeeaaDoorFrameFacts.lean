/- Two right requests that have one frame are one: plain facts on the bytes of a frame. -/
import Derived.Test.YtibdemdhbpkeeaaDoorFramedWalks
namespace Go.Proofs.YtibdemdhbpkeeaaDoor

theorem Wi.within_iff {x lo hi : Int} : Wi.withinB x lo hi = true ↔ lo ≤ x ∧ x ≤ hi := by simp [Wi.withinB]

/-- the bounds of a right request's fields -/
structure Wi.Fits (k c sq it sd pr q id : Int) : Prop where
  k : 0 ≤ k ∧ k < 256
  c : 0 ≤ c ∧ c < 256
  sq : 0 ≤ sq ∧ sq < 4294967296
  it : 0 ≤ it ∧ it < 256
  sd : 0 ≤ sd ∧ sd < 256
  pr : 0 ≤ pr ∧ pr < 4294967296
  q : 0 ≤ q ∧ q < 4294967296
  id : 0 ≤ id ∧ id < 4294967296

theorem Wi.fits {k c sq it sd pr q id : Int} (h : Wi.code k c sq it sd pr q id = 0) : Wi.Fits k c sq it sd pr q id := by
  obtain ⟨h1, h2, h3⟩ := code_zero h
  simp only [Wi.kindB, Bool.or_eq_true, beq_iff_eq] at h1
  simp only [Wi.boundB, Bool.and_eq_true, Wi.within_iff] at h2
  obtain ⟨⟨⟨hc, hsq⟩, hid⟩, hr⟩ := h2
  unfold Wi.shapeB at h3
  by_cases k1 : k = 111
  · subst k1
    simp [Wi.within_iff] at hr
    exact ⟨by omega, by omega, by omega, by omega, by omega, by omega, by omega, by omega⟩
  · have e1 : (k == 111) = false := by simpa using k1
    rw [e1] at h3 hr
    by_cases k2 : k = 99
    · subst k2
      simp [Wi.within_iff] at hr h3
      exact ⟨by omega, by omega, by omega, by omega, by omega, by omega, by omega, by omega⟩
    · have e2 : (k == 99) = false := by simpa using k2
      rw [e2] at h3
      simp at h3
      exact ⟨by omega, by omega, by omega, by omega, by omega, by omega, by omega, by omega⟩

theorem Wi.byte_inj {a b : Int} (h : UInt8.ofNat a.toNat = UInt8.ofNat b.toNat) (ha : 0 ≤ a ∧ a < 256) (hb : 0 ≤ b ∧ b < 256) : a = b := by
  have := congrArg UInt8.toNat h
  simp only [UInt8.toNat_ofNat'] at this
  omega

theorem Wi.high_inj {x y : Int} (hx : 0 ≤ x ∧ x < 4294967296) (hy : 0 ≤ y ∧ y < 4294967296)
    (h1 : UInt8.ofNat (x / 16777216 % 256).toNat = UInt8.ofNat (y / 16777216 % 256).toNat) (h2 : UInt8.ofNat (x / 65536 % 256).toNat = UInt8.ofNat (y / 65536 % 256).toNat)
    (h3 : UInt8.ofNat (x / 256 % 256).toNat = UInt8.ofNat (y / 256 % 256).toNat) (h4 : UInt8.ofNat (x % 256).toNat = UInt8.ofNat (y % 256).toNat) : x = y := by
  have a1 := Wi.byte_inj h1 (by omega) (by omega)
  have a2 := Wi.byte_inj h2 (by omega) (by omega)
  have a3 := Wi.byte_inj h3 (by omega) (by omega)
  have a4 := Wi.byte_inj h4 (by omega) (by omega)
  omega

theorem Wi.low_byte (x : Int) : 0 ≤ x % 256 ∧ x % 256 < 256 := by omega

theorem Wi.frame_inj {ka ca sqa ita sda pra qa ida kb cb sqb itb sdb prb qb idb : Int} (ha : Wi.code ka ca sqa ita sda pra qa ida = 0) (hb : Wi.code kb cb sqb itb sdb prb qb idb = 0)
    (h : strOfNums (Wi.frame ka ca sqa ita sda pra qa ida) = strOfNums (Wi.frame kb cb sqb itb sdb prb qb idb)) :
    ka = kb ∧ ca = cb ∧ sqa = sqb ∧ ita = itb ∧ sda = sdb ∧ pra = prb ∧ qa = qb ∧ ida = idb := by
  have fa := Wi.fits ha
  have fb := Wi.fits hb
  have h' := congrArg (fun s : ByteArray => s.data.toList.take 26) h
  simp [strOfNums, Wi.frame, Wi.body, Wi.high] at h'
  obtain ⟨e0, e1, e2, e3, e4, e5, e6, e7, e8, e9, e10, e11, e12, e13, e14, e15, e16, e17, e18, e19⟩ := h'
  have g1 := Wi.byte_inj e1 (Wi.low_byte _) (Wi.low_byte _)
  have g6 := Wi.byte_inj e6 (Wi.low_byte _) (Wi.low_byte _)
  have g7 := Wi.byte_inj e7 (Wi.low_byte _) (Wi.low_byte _)
  have b1 := fa.c; have b2 := fb.c; have b3 := fa.it; have b4 := fb.it; have b5 := fa.sd; have b6 := fb.sd
  exact ⟨Wi.byte_inj e0 fa.k fb.k, by omega, Wi.high_inj fa.sq fb.sq e2 e3 e4 e5, by omega, by omega, Wi.high_inj fa.pr fb.pr e8 e9 e10 e11, Wi.high_inj fa.q fb.q e12 e13 e14 e15, Wi.high_inj fa.id fb.id e16 e17 e18 e19⟩

end Go.Proofs.YtibdemdhbpkeeaaDoor
