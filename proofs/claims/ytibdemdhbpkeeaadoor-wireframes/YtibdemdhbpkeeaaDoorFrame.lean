/- The document's frame of a right request is the frame that Encode makes. -/
import Derived.Test.YtibdemdhbpkeeaaDoorBytes
import Derived.Test.YtibdemdhbpkeeaaDoorClass
import Derived.Test.YtibdemdhbpkeeaaDoorFrameFacts
namespace Go.Proofs.YtibdemdhbpkeeaaDoor
open Go.RowKit
set_option maxRecDepth 100000

/-- the worlds behind a world that have only grown -/
def Later (w0 : World) : Type := { w : World // Below w0.heap.size w0 w }
def Later.val {w0 : World} (x : Later w0) : World := x.1
theorem Later.low {w0 : World} (x : Later w0) : Below w0.heap.size w0 x.val := x.2

def zerosN (n : Nat) : List Int := List.replicate n 0
theorem zerosN_succ (n : Nat) : zerosN (n + 1) = zerosN n ++ [0] := List.replicate_succ'
theorem zerosN_length (n : Nat) : (zerosN n).length = n := List.length_replicate

/-- how long a text is -/
def strLen : Value → Nat
  | .string s => s.size
  | _ => 0

theorem byte_later {w0 : World} (n : Int) (x : Later w0) : Calls Tryd.prog 29 #[.int .i64 n] x.val fun e w'' => e = .returned (.string (strOfNums [n % 256])) ∧ ∃ y : Later w0, w'' = y.val :=
  (byte_any n x.val).mono fun _ w' ⟨he, hb⟩ => ⟨he, ⟨w', x.low.trans (hb.mono x.low.size)⟩, rfl⟩
theorem high_later {w0 : World} (n : Nat) (hn : n < 4294967296) (x : Later w0) : Calls Tryd.prog 30 #[.int .i64 n] x.val fun e w'' => e = .returned (.string (strOfNums (Wi.high n))) ∧ ∃ y : Later w0, w'' = y.val :=
  (high_any n x.val hn).mono fun _ w' ⟨he, hb⟩ => ⟨he, ⟨w', x.low.trans (hb.mono x.low.size)⟩, rfl⟩

set_option maxHeartbeats 4000000 in
theorem frame_any (k c sq it sd pr q id : Nat) (w : World) (hk : k < 256) (hsq : sq < 4294967296) (hpr : pr < 4294967296) (hq : q < 4294967296) (hid : id < 4294967296) :
    Calls Tryd.prog 13 #[.agg #[.int .u8 k, .int .i64 c, .int .i64 sq, .int .i64 it, .int .i64 sd, .int .i64 pr, .int .i64 q, .int .i64 id]] w fun e w' => e = .returned (.string (strOfNums (Wi.frame k c sq it sd pr q id))) ∧ Below w.heap.size w w' := by
  go_enter Tryd.func13, Tryd.ntmps13
  go_wp2
  have hb0 : Below w.heap.size w (w.alloc (.cells #[.int .u8 k, .int .i64 c, .int .i64 sq, .int .i64 it, .int .i64 sd, .int .i64 pr, .int .i64 q, .int .i64 id] 23)) := (Below.refl _ _).alloc (Nat.le_refl _) _
  have hz0 : w.heap.size < (w.alloc (.cells #[.int .u8 k, .int .i64 c, .int .i64 sq, .int .i64 it, .int .i64 sd, .int .i64 pr, .int .i64 q, .int .i64 id] 23)).heap.size := by simp
  have p0 : (w.alloc (.cells #[.int .u8 k, .int .i64 c, .int .i64 sq, .int .i64 it, .int .i64 sd, .int .i64 pr, .int .i64 q, .int .i64 id] 23)).cell? ⟨w.heap.size, 0, none⟩ = some (.int .u8 k) := by simp
  have p1 : (w.alloc (.cells #[.int .u8 k, .int .i64 c, .int .i64 sq, .int .i64 it, .int .i64 sd, .int .i64 pr, .int .i64 q, .int .i64 id] 23)).cell? ⟨w.heap.size, 1, none⟩ = some (.int .i64 c) := by simp
  have p2 : (w.alloc (.cells #[.int .u8 k, .int .i64 c, .int .i64 sq, .int .i64 it, .int .i64 sd, .int .i64 pr, .int .i64 q, .int .i64 id] 23)).cell? ⟨w.heap.size, 2, none⟩ = some (.int .i64 sq) := by simp
  have p3 : (w.alloc (.cells #[.int .u8 k, .int .i64 c, .int .i64 sq, .int .i64 it, .int .i64 sd, .int .i64 pr, .int .i64 q, .int .i64 id] 23)).cell? ⟨w.heap.size, 3, none⟩ = some (.int .i64 it) := by simp
  have p4 : (w.alloc (.cells #[.int .u8 k, .int .i64 c, .int .i64 sq, .int .i64 it, .int .i64 sd, .int .i64 pr, .int .i64 q, .int .i64 id] 23)).cell? ⟨w.heap.size, 4, none⟩ = some (.int .i64 sd) := by simp
  have p5 : (w.alloc (.cells #[.int .u8 k, .int .i64 c, .int .i64 sq, .int .i64 it, .int .i64 sd, .int .i64 pr, .int .i64 q, .int .i64 id] 23)).cell? ⟨w.heap.size, 5, none⟩ = some (.int .i64 pr) := by simp
  have p6 : (w.alloc (.cells #[.int .u8 k, .int .i64 c, .int .i64 sq, .int .i64 it, .int .i64 sd, .int .i64 pr, .int .i64 q, .int .i64 id] 23)).cell? ⟨w.heap.size, 6, none⟩ = some (.int .i64 q) := by simp
  have p7 : (w.alloc (.cells #[.int .u8 k, .int .i64 c, .int .i64 sq, .int .i64 it, .int .i64 sd, .int .i64 pr, .int .i64 q, .int .i64 id] 23)).cell? ⟨w.heap.size, 7, none⟩ = some (.int .i64 id) := by simp
  generalize w.alloc (.cells #[.int .u8 k, .int .i64 c, .int .i64 sq, .int .i64 it, .int .i64 sd, .int .i64 pr, .int .i64 q, .int .i64 id] 23) = w0 at *
  have q0 : ∀ x : Later w0, x.val.cell? ⟨w.heap.size, 0, none⟩ = some (.int .u8 k) := fun x => by rw [x.low.cell (p := ⟨w.heap.size, 0, none⟩) hz0]; exact p0
  have q1 : ∀ x : Later w0, x.val.cell? ⟨w.heap.size, 1, none⟩ = some (.int .i64 c) := fun x => by rw [x.low.cell (p := ⟨w.heap.size, 1, none⟩) hz0]; exact p1
  have q2 : ∀ x : Later w0, x.val.cell? ⟨w.heap.size, 2, none⟩ = some (.int .i64 sq) := fun x => by rw [x.low.cell (p := ⟨w.heap.size, 2, none⟩) hz0]; exact p2
  have q3 : ∀ x : Later w0, x.val.cell? ⟨w.heap.size, 3, none⟩ = some (.int .i64 it) := fun x => by rw [x.low.cell (p := ⟨w.heap.size, 3, none⟩) hz0]; exact p3
  have q4 : ∀ x : Later w0, x.val.cell? ⟨w.heap.size, 4, none⟩ = some (.int .i64 sd) := fun x => by rw [x.low.cell (p := ⟨w.heap.size, 4, none⟩) hz0]; exact p4
  have q5 : ∀ x : Later w0, x.val.cell? ⟨w.heap.size, 5, none⟩ = some (.int .i64 pr) := fun x => by rw [x.low.cell (p := ⟨w.heap.size, 5, none⟩) hz0]; exact p5
  have q6 : ∀ x : Later w0, x.val.cell? ⟨w.heap.size, 6, none⟩ = some (.int .i64 q) := fun x => by rw [x.low.cell (p := ⟨w.heap.size, 6, none⟩) hz0]; exact p6
  have q7 : ∀ x : Later w0, x.val.cell? ⟨w.heap.size, 7, none⟩ = some (.int .i64 id) := fun x => by rw [x.low.cell (p := ⟨w.heap.size, 7, none⟩) hz0]; exact p7
  clear p0 p1 p2 p3 p4 p5 p6 p7
  have HB0 := hide hb0; clear hb0
  have hne : Nonempty (Later w0) := ⟨⟨w0, Below.refl _ _⟩⟩
  have z1 : ∀ n : Int, (strOfNums [n]).size = 1 := fun n => rfl
  have z4 : ∀ n : Int, (strOfNums (Wi.high n)).size = 4 := fun n => rfl
  refine region_quiet_class (X := Later w0) Later.val (by kernel_rfl) (by kernel_rfl) ⟨_, (Below.refl _ _).drew⟩ rfl ?_
  repeat quiet_step ((first | (go_at_call 29; exact byte_later _ _) | (go_at_call 30; exact high_later _ (by assumption) _)))
  refine wpQuiet_nil ?_
  intro x
  go_wp2_with fail
  have hw : IntKind.i64.wrap (k : Int) % 256 = (k : Int) := by rw [wrap_i64_id k (by omega)]; omega
  have E : strOfNums [IntKind.i64.wrap (k : Int) % 256] ++ strOfNums [(c : Int) % 256] ++ strOfNums (Wi.high sq) ++ strOfNums [(it : Int) % 256] ++ strOfNums [(sd : Int) % 256] ++ strOfNums (Wi.high pr) ++ strOfNums (Wi.high q) ++ strOfNums (Wi.high id)
      = strOfNums (((((([(k : Int), (c : Int) % 256] ++ Wi.high sq) ++ [(it : Int) % 256, (sd : Int) % 256]) ++ Wi.high pr) ++ Wi.high q) ++ Wi.high id)) := by
    rw [hw]
    simp only [nums_append]
    simp
  rw [E]
  have HF : Hid (Wi.frame k c sq it sd pr q id = ((((((([(k : Int), (c : Int) % 256] ++ Wi.high sq) ++ [(it : Int) % 256, (sd : Int) % 256]) ++ Wi.high pr) ++ Wi.high q) ++ Wi.high id)) ++ zerosN 6) ++
      Wi.low (Wi.sum (strOfNums ((((((([(k : Int), (c : Int) % 256] ++ Wi.high sq) ++ [(it : Int) % 256, (sd : Int) % 256]) ++ Wi.high pr) ++ Wi.high q) ++ Wi.high id)) ++ zerosN 6)).data.toList)) := rfl
  have HL : Hid ((((((([(k : Int), (c : Int) % 256] ++ Wi.high sq) ++ [(it : Int) % 256, (sd : Int) % 256]) ++ Wi.high pr) ++ Wi.high q) ++ Wi.high id)).length = 20) := by
    show List.length _ = 20
    simp [Wi.high]
  clear E hw z1 z4
  generalize (((((([(k : Int), (c : Int) % 256] ++ Wi.high sq) ++ [(it : Int) % 256, (sd : Int) % 256]) ++ Wi.high pr) ++ Wi.high q) ++ Wi.high id)) = H at *
  have HX : Hid (Below w.heap.size w x.val) := HB0.out.trans (x.low.mono HB0.out.size)
  generalize x.val = w1 at *
  go_loop [3] (fun v => ∃ j : Nat, j ≤ 6 ∧ v = .string (strOfNums (H ++ zerosN j))) (fun v => 26 - strLen v)
  case atStart => exact ⟨0, by omega, by rw [show zerosN 0 = [] from rfl, List.append_nil]⟩
  case round =>
    obtain ⟨j, hj, rfl⟩ := hrel
    have hsz : (strOfNums (H ++ zerosN j)).size = 20 + j := by rw [strOfNums_size, List.length_append, HL.out, zerosN_length]
    have HS : Hid (strOfNums (H ++ zerosN j) ++ ⟨#[0]⟩ = strOfNums (H ++ zerosN (j + 1))) := by
      have : (⟨#[0]⟩ : ByteArray) = strOfNums [0] := rfl
      show _ ++ _ = _
      rw [this, nums_append, List.append_assoc, zerosN_succ]
    by_cases hlt : j < 6
    · have hji : (20 + (j : Int)) < 26 := by omega
      go_wp2
      refine ⟨⟨j + 1, by omega, by rw [HS.out]⟩, ?_⟩
      rw [HS.out]
      show 26 - (strOfNums (H ++ zerosN (j + 1))).size < 26 - (strOfNums (H ++ zerosN j)).size
      rw [strOfNums_size, strOfNums_size, List.length_append, List.length_append, HL.out, zerosN_length, zerosN_length]
      omega
    · obtain rfl : j = 6 := by omega
      have hji : ¬ ((strOfNums (H ++ zerosN 6)).size : Int) < 26 := by omega
      have hm : (strOfNums (H ++ zerosN 6)).size ≤ maxLen := by rw [hsz]; decide
      clear HS
      go_wp2_with fail
      refine (crc_any _ _ hm).mono ?_
      rintro e w2 ⟨rfl, rfl⟩
      go_wp2_with fail
      refine (low_any _ _ (Wi.sum_lt _)).mono ?_
      rintro e w3 ⟨rfl, hb3⟩
      have hz4 : (strOfNums (Wi.low (Wi.sum (strOfNums (H ++ zerosN 6)).data.toList))).size = 4 := rfl
      go_wp2
      go_ret
      refine ⟨ret_string ?_, HX.out.trans (hb3.mono HX.out.size)⟩
      rw [nums_append, HF.out]

theorem frame_of (k c sq it sd pr q id : Int) (w : World) (h : Wi.code k c sq it sd pr q id = 0) :
    Calls Tryd.prog 13 #[.agg #[.int .u8 k, .int .i64 c, .int .i64 sq, .int .i64 it, .int .i64 sd, .int .i64 pr, .int .i64 q, .int .i64 id]] w fun e w' => e = .returned (.string (strOfNums (Wi.frame k c sq it sd pr q id))) ∧ Below w.heap.size w w' := by
  have f := Wi.fits h
  obtain ⟨k, rfl⟩ := Int.eq_ofNat_of_zero_le f.k.1
  obtain ⟨c, rfl⟩ := Int.eq_ofNat_of_zero_le f.c.1
  obtain ⟨sq, rfl⟩ := Int.eq_ofNat_of_zero_le f.sq.1
  obtain ⟨it, rfl⟩ := Int.eq_ofNat_of_zero_le f.it.1
  obtain ⟨sd, rfl⟩ := Int.eq_ofNat_of_zero_le f.sd.1
  obtain ⟨pr, rfl⟩ := Int.eq_ofNat_of_zero_le f.pr.1
  obtain ⟨q, rfl⟩ := Int.eq_ofNat_of_zero_le f.q.1
  obtain ⟨id, rfl⟩ := Int.eq_ofNat_of_zero_le f.id.1
  have h1 := f.k; have h2 := f.sq; have h3 := f.pr; have h4 := f.q; have h5 := f.id
  exact frame_any k c sq it sd pr q id w (by omega) (by omega) (by omega) (by omega) (by omega)

end Go.Proofs.YtibdemdhbpkeeaaDoor
