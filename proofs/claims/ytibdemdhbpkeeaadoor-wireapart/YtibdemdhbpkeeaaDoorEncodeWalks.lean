/- What Encode does, for every request: the walks of four.AppendHigh, four.AppendLow and Encode. -/
import Derived.Test.YtibdemdhbpkeeaaDoorSumWalks
import Derived.Lib.AppendStr
namespace Go.Proofs.YtibdemdhbpkeeaaDoor
open Go.RowKit
set_option maxRecDepth 100000

/-- a slice of bytes of the call's own -/
def Row (w : World) (base : Nat) (v : Value) (xs : List Int) : Prop := w.ownsRow base 5 1 v xs.length (xs.map (Value.int .u8))

theorem info5 : ∃ i, Tryd.prog.info? 5 = some i ∧ i.zero = some (.int .u8 0) ∧ i.size = 1 ∧ i.bytes = 1 := ⟨_, rfl, rfl, rfl, rfl⟩

set_option maxHeartbeats 1000000 in
theorem putHigh32 (v : Value) (xs : List Int) (x : Int) (base : Nat) (w : World) (hown : Row w base v xs) (hn : xs.length ≤ 100000) (hbase : base ≤ w.heap.size) :
    Calls Tryd.prog 21 #[v, .int .u32 x] w fun e w' => ∃ v', e = .returned v' ∧ Row w' base v' (xs ++ [x / 16777216 % 256, x / 65536 % 256, x / 256 % 256, x % 256]) ∧ Below base w w' := by
  obtain ⟨i5, hi, hz0, hz1, hz2⟩ := info5
  have Hi := hide hi; have Hz0 := hide hz0; have Hz1 := hide hz1; have Hz2 := hide hz2
  clear hi hz0 hz1 hz2
  have Hown : Hid (Row w base v xs) := hown
  clear hown
  go_enter Tryd.func21, Tryd.ntmps21
  go_wp2_with (at_builtin; refine wpList_append_own _ rfl _ _ 41 rfl base 5 i5 (.int .u8 0) 1 1 Tryd.underlying41 Hi.out Hz0.out Hz1.out Hz2.out rfl (by decide) _ _ _ rfl (World.ownsRow.alloc Hown.out _) ⟨w.heap.size, 0, none⟩ 4 4 ([x / 16777216 % 256, x / 65536 % 256, x / 256 % 256, x % 256].map (Value.int .u8)) rfl rfl ?c1 ?c2 ?c3 ?c4 ?c5 ?_)
  case c1 =>
    intro j u hj
    match j, hj with
    | 0, hj => simp at hj; subst hj; simp [Addr.add]
    | 1, hj => simp at hj; subst hj; simp [Addr.add]
    | 2, hj => simp at hj; subst hj; simp [Addr.add]
    | 3, hj => simp at hj; subst hj; simp [Addr.add]
  case c2 => intro u hu; simp at hu; rcases hu with rfl | rfl | rfl | rfl <;> rfl
  case c3 => unfold maxLen; omega
  case c4 => omega
  case c5 => simp; omega
  intro v' w2 hown' hgrow _
  have HO := hide hown'; have HG := hide hgrow
  clear hown' hgrow
  go_wp2
  go_ret
  refine ⟨v', rfl, ?_, ?_⟩
  · have := HO.out
    unfold Row
    simpa using this
  · exact ((Below.refl _ _).alloc hbase _).grown HG.out (by simp; omega) (fun k hk => (World.ownsRow.lt Hown.out k hk).1)

theorem putHigh (v : Value) (xs : List Int) (x : Int) (base : Nat) (w : World) (hown : Row w base v xs) (hn : xs.length ≤ 100000) (hbase : base ≤ w.heap.size) :
    Calls Tryd.prog 21 #[v, .int .u32 (x % 4294967296)] w fun e w' => ∃ v', e = .returned v' ∧ Row w' base v' (xs ++ [x / 16777216 % 256, x / 65536 % 256, x / 256 % 256, x % 256]) ∧ Below base w w' := by
  have h := putHigh32 v xs (x % 4294967296) base w hown hn hbase
  rw [show x % 4294967296 / 16777216 % 256 = x / 16777216 % 256 by omega, show x % 4294967296 / 65536 % 256 = x / 65536 % 256 by omega, show x % 4294967296 / 256 % 256 = x / 256 % 256 by omega, show x % 4294967296 % 256 = x % 256 by omega] at h
  exact h

set_option maxHeartbeats 1000000 in
theorem putLow (v : Value) (xs : List Int) (x : Int) (base : Nat) (w : World) (hown : Row w base v xs) (hn : xs.length ≤ 100000) (hbase : base ≤ w.heap.size) :
    Calls Tryd.prog 22 #[v, .int .u32 x] w fun e w' => ∃ v', e = .returned v' ∧ Row w' base v' (xs ++ [x % 256, x / 256 % 256, x / 65536 % 256, x / 16777216 % 256]) ∧ Below base w w' := by
  obtain ⟨i5, hi, hz0, hz1, hz2⟩ := info5
  have Hi := hide hi; have Hz0 := hide hz0; have Hz1 := hide hz1; have Hz2 := hide hz2
  clear hi hz0 hz1 hz2
  have Hown : Hid (Row w base v xs) := hown
  clear hown
  go_enter Tryd.func22, Tryd.ntmps22
  go_wp2_with (at_builtin; refine wpList_append_own _ rfl _ _ 41 rfl base 5 i5 (.int .u8 0) 1 1 Tryd.underlying41 Hi.out Hz0.out Hz1.out Hz2.out rfl (by decide) _ _ _ rfl (World.ownsRow.alloc Hown.out _) ⟨w.heap.size, 0, none⟩ 4 4 ([x % 256, x / 256 % 256, x / 65536 % 256, x / 16777216 % 256].map (Value.int .u8)) rfl rfl ?c1 ?c2 ?c3 ?c4 ?c5 ?_)
  case c1 =>
    intro j u hj
    match j, hj with
    | 0, hj => simp at hj; subst hj; simp [Addr.add]
    | 1, hj => simp at hj; subst hj; simp [Addr.add]
    | 2, hj => simp at hj; subst hj; simp [Addr.add]
    | 3, hj => simp at hj; subst hj; simp [Addr.add]
  case c2 => intro u hu; simp at hu; rcases hu with rfl | rfl | rfl | rfl <;> rfl
  case c3 => unfold maxLen; omega
  case c4 => omega
  case c5 => simp; omega
  intro v' w2 hown' hgrow _
  have HO := hide hown'; have HG := hide hgrow
  clear hown' hgrow
  go_wp2
  go_ret
  refine ⟨v', rfl, ?_, ?_⟩
  · have := HO.out
    unfold Row
    simpa using this
  · exact ((Below.refl _ _).alloc hbase _).grown HG.out (by simp; omega) (fun k hk => (World.ownsRow.lt Hown.out k hk).1)

theorem row_string {w : World} {base : Nat} {v : Value} {xs : List Int} (h : Row w base v xs) : (convert 41 9 v).run Tryd.prog w = .ok (.string (strOfNums xs)) w := by
  obtain ⟨hl, h⟩ := h
  rcases h with ⟨rfl, hn⟩ | ⟨g, cap, cur, rfl, hb, hg, hn, hcap, hsz, ht⟩
  · obtain rfl : xs = [] := by simpa using hn
    exact run_convert_bytes_nil w 41 5 Tryd.underlying41 Tryd.underlying5 0 0 9 Tryd.underlying9
  · refine run_convert_bytes_arg w 41 5 Tryd.underlying41 Tryd.underlying5 g 0 xs.length cap xs rfl ?_ 9 Tryd.underlying9
    intro i hi
    have := World.ownsRow.cells (w := w) (base := base) (e := 5) (size := 1) (v := .slice (some ⟨g, 0, none⟩) xs.length cap) (n := xs.length) (xs := xs.map (Value.int .u8)) ⟨hl, .inr ⟨g, cap, cur, rfl, hb, hg, hn, hcap, hsz, ht⟩⟩ (g := g) rfl i (.int .u8 (xs.getD i 0)) (by simp [hi])
    have hp : (⟨g, 0, none⟩ : Addr).add i = ⟨g, 0 + i, none⟩ := by unfold Addr.add; split <;> simp_all
    rwa [hp] at this

theorem ask_cell {w w1 wi : World} {C : Array Value} (hb1 : Below (w.alloc (.cells C 23)).heap.size (w.alloc (.cells C 23)) w1) (hB : Below w1.heap.size w1 wi) (j : Nat) : wi.cell? ⟨w.heap.size, j, none⟩ = C[j]? := by
  have hs : w.heap.size < (w.alloc (.cells C 23)).heap.size := by simp
  have hs1 : w.heap.size < w1.heap.size := Nat.lt_of_lt_of_le hs hb1.size
  rw [hB.cell (p := ⟨w.heap.size, j, none⟩) hs1, hb1.cell (p := ⟨w.heap.size, j, none⟩) hs]
  simp

/-- the bytes of four of a number, high first and low first -/
def Wi.high (x : Int) : List Int := [x / 16777216 % 256, x / 65536 % 256, x / 256 % 256, x % 256]
def Wi.low (x : Int) : List Int := [x % 256, x / 256 % 256, x / 65536 % 256, x / 16777216 % 256]
/-- a request's bytes ahead of the sum -/
def Wi.body (k c sq it sd pr q id : Int) : List Int :=
  (((((([k, c % 256] ++ Wi.high sq) ++ [it % 256, sd % 256]) ++ Wi.high pr) ++ Wi.high q) ++ Wi.high id) ++ [0, 0, 0, 0, 0, 0])
def Wi.frame (k c sq it sd pr q id : Int) : List Int :=
  Wi.body k c sq it sd pr q id ++ Wi.low (Wi.sum (strOfNums (Wi.body k c sq it sd pr q id)).data.toList)

set_option maxHeartbeats 4000000 in
theorem encode_fine (k c sq it sd pr q id : Int) (w : World) (hk : Wi.kindB k = true) (hbd : Wi.boundB k c sq it sd pr q id = true) (hsh : Wi.shapeB k it sd pr q id = true) :
    Calls Tryd.prog 9 #[.agg #[.int .u8 k, .int .i64 c, .int .i64 sq, .int .i64 it, .int .i64 sd, .int .i64 pr, .int .i64 q, .int .i64 id]] w fun e w' => e = .returned (.tuple #[.string (strOfNums (Wi.frame k c sq it sd pr q id)), .nilIface]) ∧ Below w.heap.size w w' := by
  obtain ⟨i5, hi, hz0, hz1, hz2⟩ := info5
  have Hi := hide hi; have Hz0 := hide hz0; have Hz1 := hide hz1; have Hz2 := hide hz2
  clear hi hz0 hz1 hz2
  have hmk : ∀ w, (Instr.makeSlice 41 (.int .i64 0) (.int .i64 30)).run Tryd.prog w = .ok (.slice (some ⟨w.heap.size, 0, none⟩) 0 30) (w.alloc (.cells #[.int .u8 0, .int .u8 0, .int .u8 0, .int .u8 0, .int .u8 0, .int .u8 0, .int .u8 0, .int .u8 0, .int .u8 0, .int .u8 0, .int .u8 0, .int .u8 0, .int .u8 0, .int .u8 0, .int .u8 0, .int .u8 0, .int .u8 0, .int .u8 0, .int .u8 0, .int .u8 0, .int .u8 0, .int .u8 0, .int .u8 0, .int .u8 0, .int .u8 0, .int .u8 0, .int .u8 0, .int .u8 0, .int .u8 0, .int .u8 0] 5)) := fun _ => by kernel_rfl
  go_enter Tryd.func9, Tryd.ntmps9
  go_wp2_with fail
  refine (check_fine _ _ _ _ _ _ _ _ _ hk hbd hsh).mono ?_
  rintro e w1 ⟨rfl, hb1⟩
  have hz1 : w.heap.size < w1.heap.size := by have := hb1.size; simp at this; omega
  have hc0 : w1.cell? ⟨w.heap.size, 0, none⟩ = some (.int .u8 k) := ask_cell hb1 (Below.refl _ _) 0
  have hc1 : w1.cell? ⟨w.heap.size, 1, none⟩ = some (.int .i64 c) := ask_cell hb1 (Below.refl _ _) 1
  have Hb1 := hide hb1
  clear hb1
  have HR0 : Hid (Row (w1.alloc (.cells #[.int .u8 0, .int .u8 0, .int .u8 0, .int .u8 0, .int .u8 0, .int .u8 0, .int .u8 0, .int .u8 0, .int .u8 0, .int .u8 0, .int .u8 0, .int .u8 0, .int .u8 0, .int .u8 0, .int .u8 0, .int .u8 0, .int .u8 0, .int .u8 0, .int .u8 0, .int .u8 0, .int .u8 0, .int .u8 0, .int .u8 0, .int .u8 0, .int .u8 0, .int .u8 0, .int .u8 0, .int .u8 0, .int .u8 0, .int .u8 0] 5)) w1.heap.size (.slice (some ⟨w1.heap.size, 0, none⟩) 0 30) []) := World.ownsRow_made w1 _ 30 (Nat.le_refl _) (by decide) rfl
  go_wp2_with (at_builtin; refine wpList_append_own _ rfl _ _ 41 rfl w1.heap.size 5 i5 (.int .u8 0) 1 1 Tryd.underlying41 Hi.out Hz0.out Hz1.out Hz2.out rfl (by decide) _ _ _ rfl (World.ownsRow.alloc HR0.out _) ⟨w1.heap.size + 1, 0, none⟩ 2 2 ([k, c % 256].map (Value.int .u8)) rfl rfl ?c1 ?c2 ?c3 ?c4 ?c5 ?_)
  case c1 =>
    intro j u hj
    match j, hj with
    | 0, hj => simp at hj; subst hj; simp [Addr.add]
    | 1, hj => simp at hj; subst hj; simp [Addr.add]
  case c2 => intro u hu; simp at hu; rcases hu with rfl | rfl <;> rfl
  case c3 => unfold maxLen; simp
  case c4 => simp
  case c5 => simp; omega
  intro v2 w2 hown' hgrow _
  have HR2 : Hid (Row w2 w1.heap.size v2 [k, c % 256]) := hown'
  have HB2 : Hid (Below w1.heap.size w1 w2) := ((((Below.refl _ _).alloc (Nat.le_refl _) _).alloc (by simp) _).grown hgrow (by simp; omega) (fun k hk => (World.ownsRow.lt HR0.out k hk).1))
  clear hown' hgrow
  have hc2 : w2.cell? ⟨w.heap.size, 2, none⟩ = some (.int .i64 sq) := ask_cell Hb1.out HB2.out 2
  go_wp2_with fail
  refine (putHigh v2 _ _ w1.heap.size w2 HR2.out (by simp) HB2.out.size).mono ?_
  rintro e w3 ⟨v3, rfl, hr3, hb3⟩
  have HR3 : Hid (Row w3 w1.heap.size v3 ([k, c % 256] ++ Wi.high sq)) := hr3
  have HB3 : Hid (Below w1.heap.size w1 w3) := HB2.out.trans hb3
  clear hr3 hb3
  have hd33 : w3.cell? ⟨w.heap.size, 3, none⟩ = some (.int .i64 it) := ask_cell Hb1.out HB3.out 3
  have hd34 : w3.cell? ⟨w.heap.size, 4, none⟩ = some (.int .i64 sd) := ask_cell Hb1.out HB3.out 4
  go_wp2_with (at_builtin; refine wpList_append_own _ rfl _ _ 41 rfl w1.heap.size 5 i5 (.int .u8 0) 1 1 Tryd.underlying41 Hi.out Hz0.out Hz1.out Hz2.out rfl (by decide) _ _ _ rfl (World.ownsRow.alloc HR3.out _) ⟨w3.heap.size, 0, none⟩ 2 2 ([it % 256, sd % 256].map (Value.int .u8)) rfl rfl ?c1 ?c2 ?c3 ?c4 ?c5 ?_)
  case c1 =>
    intro j u hj
    match j, hj with
    | 0, hj => simp at hj; subst hj; simp [Addr.add]
    | 1, hj => simp at hj; subst hj; simp [Addr.add]
  case c2 => intro u hu; simp at hu; rcases hu with rfl | rfl <;> rfl
  case c3 => unfold maxLen; simp [Wi.high]
  case c4 => simp [Wi.high]
  case c5 => have := HB3.out.size; simp; omega
  intro v4 w4 hown' hgrow _
  have HR4 : Hid (Row w4 w1.heap.size v4 (([k, c % 256] ++ Wi.high sq) ++ [it % 256, sd % 256])) := hown'
  have HB4 : Hid (Below w1.heap.size w1 w4) := (HB3.out.alloc HB3.out.size _).grown hgrow (by have := HB3.out.size; simp; omega) (fun k hk => (World.ownsRow.lt HR3.out k hk).1)
  clear hown' hgrow
  have hd45 : w4.cell? ⟨w.heap.size, 5, none⟩ = some (.int .i64 pr) := ask_cell Hb1.out HB4.out 5
  go_wp2_with fail
  refine (putHigh v4 _ _ w1.heap.size w4 HR4.out (by simp [Wi.high]) HB4.out.size).mono ?_
  rintro e w5 ⟨v5, rfl, hr5, hb5⟩
  have HR5 : Hid (Row w5 w1.heap.size v5 ((([k, c % 256] ++ Wi.high sq) ++ [it % 256, sd % 256]) ++ Wi.high pr)) := hr5
  have HB5 : Hid (Below w1.heap.size w1 w5) := HB4.out.trans hb5
  clear hr5 hb5
  have hd56 : w5.cell? ⟨w.heap.size, 6, none⟩ = some (.int .i64 q) := ask_cell Hb1.out HB5.out 6
  go_wp2_with fail
  refine (putHigh v5 _ _ w1.heap.size w5 HR5.out (by simp [Wi.high]) HB5.out.size).mono ?_
  rintro e w6 ⟨v6, rfl, hr6, hb6⟩
  have HR6 : Hid (Row w6 w1.heap.size v6 (((([k, c % 256] ++ Wi.high sq) ++ [it % 256, sd % 256]) ++ Wi.high pr) ++ Wi.high q)) := hr6
  have HB6 : Hid (Below w1.heap.size w1 w6) := HB5.out.trans hb6
  clear hr6 hb6
  have hd67 : w6.cell? ⟨w.heap.size, 7, none⟩ = some (.int .i64 id) := ask_cell Hb1.out HB6.out 7
  go_wp2_with fail
  refine (putHigh v6 _ _ w1.heap.size w6 HR6.out (by simp [Wi.high]) HB6.out.size).mono ?_
  rintro e w7 ⟨v7, rfl, hr7, hb7⟩
  have HR7 : Hid (Row w7 w1.heap.size v7 ((((([k, c % 256] ++ Wi.high sq) ++ [it % 256, sd % 256]) ++ Wi.high pr) ++ Wi.high q) ++ Wi.high id)) := hr7
  have HB7 : Hid (Below w1.heap.size w1 w7) := HB6.out.trans hb7
  clear hr7 hb7
  go_wp2_with (at_builtin; refine Lib.wpList_append_own_string _ rfl _ _ 41 9 rfl w1.heap.size 5 i5 Tryd.underlying41 Tryd.underlying9 Hi.out Hz0.out Hz1.out Hz2.out _ _ _ rfl HR7.out ⟨#[0, 0, 0, 0, 0, 0]⟩ rfl ?c3 ?c4 ?c5 ?_)
  case c3 => unfold maxLen; simp [Wi.high, ByteArray.size]
  case c4 => simp [Wi.high, ByteArray.size]
  case c5 => exact HB7.out.size
  intro v8 w8 hown' hgrow _
  have HR8 : Hid (Row w8 w1.heap.size v8 (Wi.body k c sq it sd pr q id)) := hown'
  have HB8 : Hid (Below w1.heap.size w1 w8) := HB7.out.grown hgrow HB7.out.size (fun k hk => (World.ownsRow.lt HR7.out k hk).1)
  clear hown' hgrow
  have hcv := row_string HR8.out
  go_wp2_with fail
  refine (sum_any _ _ (by unfold maxLen; simp [strOfNums, Wi.body, Wi.high, ByteArray.size])).mono ?_
  rintro e w9 ⟨rfl, rfl⟩
  go_wp2_with fail
  refine (putLow v8 _ _ w1.heap.size _ HR8.out (by simp [Wi.body, Wi.high]) HB8.out.size).mono ?_
  rintro e w10 ⟨v10, rfl, hr10, hb10⟩
  have HR10 : Hid (Row w10 w1.heap.size v10 (Wi.frame k c sq it sd pr q id)) := hr10
  have HB10 : Hid (Below w1.heap.size w1 w10) := HB8.out.trans hb10
  clear hr10 hb10 hcv
  have hcv2 := row_string HR10.out
  go_wp2
  go_ret2
  refine ⟨rfl, ?_⟩
  exact (((Below.refl _ _).alloc (Nat.le_refl _) _).trans (Hb1.out.mono (by simp))).trans (HB10.out.mono (Nat.le_of_lt hz1))

set_option maxHeartbeats 1000000 in
theorem encode_bad (k c sq it sd pr q id : Int) (T : TypeId) (x : Value) (w : World)
    (hchk : Hid (∀ o, Calls Tryd.prog 11 #[.agg #[.int .u8 k, .int .i64 c, .int .i64 sq, .int .i64 it, .int .i64 sd, .int .i64 pr, .int .i64 q, .int .i64 id]] (w.alloc o) fun e w' => e = .returned (.iface T x) ∧ Below (w.alloc o).heap.size (w.alloc o) w')) :
    Calls Tryd.prog 9 #[.agg #[.int .u8 k, .int .i64 c, .int .i64 sq, .int .i64 it, .int .i64 sd, .int .i64 pr, .int .i64 q, .int .i64 id]] w fun e w' => e = .returned (.tuple #[.string ⟨#[]⟩, .iface T x]) ∧ Below w.heap.size w w' := by
  go_enter Tryd.func9, Tryd.ntmps9
  go_wp2_with fail
  refine (hchk.out _).mono ?_
  rintro e w1 ⟨rfl, hb1⟩
  go_wp2
  go_ret2
  exact ⟨rfl, ((Below.refl _ _).alloc (Nat.le_refl _) _).trans (hb1.mono (by simp))⟩

end Go.Proofs.YtibdemdhbpkeeaaDoor
