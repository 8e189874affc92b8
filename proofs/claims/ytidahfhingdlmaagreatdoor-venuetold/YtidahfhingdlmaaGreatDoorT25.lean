/- take: what a frame is, as a Reader tells it. -/
import Derived.Test.YtidahfhingdlmaaGreatDoorT23
import Derived.Test.YtidahfhingdlmaaGreatDoorT24
namespace Go.Proofs.YtidahfhingdlmaaGreatDoor
open Go.RowKit
set_option maxRecDepth 100000
theorem code_errV (n:Nat) (hn:n≤12) (ad:Nat→Addr) (w:World) (hs:Sent w ad) :
  Calls Tryz.prog 72 #[errV ad n] w fun e w'=>e = .returned (.tuple #[.int .i64 n,.int .i64 (-1)])∧Below w.heap.size w w':=by
 by_cases h:n = 0
 ·subst h
  exact (code_nil w).mono fun e w' ⟨h1,h2⟩=>⟨h1,by rw [h2];exact Below.refl _ _⟩
 ·rw [errV_pos ad h]
  have:=code_sent (n - 1) (by omega) ad w hs
  rw [show ((n - 1:Nat):Int) + 1 = (n:Int) by omega] at this
  exact this
def df (s:ByteArray) (x:Nat):Nat:=if decCode s = 0 then x else 0
def gotCells (s:ByteArray):List Value:=[.int .u8 (df s (bAt s 0)),.int .i64 (df s (bAt s 1)),.int .i64 (df s (highAt s 2)),.int .i64 (df s (bAt s 6)),.int .i64 (df s (bAt s 7)),.int .i64 (df s (highAt s 8)),.int .i64 (df s (highAt s 12)),.int .i64 (df s (highAt s 16)),.int .i64 (decCode s)]
theorem decAsk_eq (s:ByteArray):decAsk s = .agg #[.int .u8 (df s (bAt s 0)),.int .i64 (df s (bAt s 1)),.int .i64 (df s (highAt s 2)),.int .i64 (df s (bAt s 6)),.int .i64 (df s (bAt s 7)),.int .i64 (df s (highAt s 8)),.int .i64 (df s (highAt s 12)),.int .i64 (df s (highAt s 16))]:=by
 unfold decAsk df
 split <;> rfl
set_option maxHeartbeats 1000000 in
theorem w_take_any (s:ByteArray) (ad:Nat→Addr) (w:World) (hs:Hid (Sent w ad)) :
  Calls Tryz.prog 82 #[.string s] w fun e w'=>e = .returned (.agg (gotCells s).toArray)∧Below w.heap.size w w':=by
 go_enter Tryz.func82,Tryz.ntmps82
 go_wp2_with fail
 refine (decode_any s ad _ (hs.out.later ((Below.refl _ _).alloc (Nat.le_refl _) _))).mono ?_
 rintro e w1 ⟨rfl,hb1⟩
 rw [decAsk_eq]
 have HB1:Hid (Below w.heap.size w w1):=((Below.refl _ _).alloc (Nat.le_refl _) _).trans (hb1.mono (by simp))
 have HR1:Hid (w1.heap[w.heap.size]? = some (.cells #[.int .u8 0,.int .i64 0,.int .i64 0,.int .i64 0,.int .i64 0,.int .i64 0,.int .i64 0,.int .i64 0,.int .i64 0] 116 (0,0))):=by rw [Hid,hb1.block w.heap.size (by simp)];exact heap_alloc_new w _
 have hz1:w.heap.size < w1.heap.size:=by have:=hb1.size;simp at this;omega
 have hle:=decCode_le s
 have HG:Hid (gotCells s = [.int .u8 (df s (bAt s 0)),.int .i64 (df s (bAt s 1)),.int .i64 (df s (highAt s 2)),.int .i64 (df s (bAt s 6)),.int .i64 (df s (bAt s 7)),.int .i64 (df s (highAt s 8)),.int .i64 (df s (highAt s 12)),.int .i64 (df s (highAt s 16)),.int .i64 (decCode s)]):=rfl
 generalize decCode s = dc at *
 generalize df s (bAt s 0) = x0 at *
 generalize df s (bAt s 1) = x1 at *
 generalize df s (highAt s 2) = x2 at *
 generalize df s (bAt s 6) = x3 at *
 generalize df s (bAt s 7) = x4 at *
 generalize df s (highAt s 8) = x5 at *
 generalize df s (highAt s 12) = x6 at *
 generalize df s (highAt s 16) = x7 at *
 clear hb1
 simp only []
 go_wp2_with fail
 have HB1a:Hid (Below w.heap.size w (w1.alloc (.cells #[.int .u8 x0,.int .i64 x1,.int .i64 x2,.int .i64 x3,.int .i64 x4,.int .i64 x5,.int .i64 x6,.int .i64 x7] 45))):=HB1.out.alloc HB1.out.size _
 refine (code_errV dc (by omega) ad _ (hs.out.later HB1a.out)).mono ?_
 rintro e w2 ⟨rfl,hb2⟩
 have HB2:Hid (Below w.heap.size w w2):=HB1a.out.trans (hb2.mono HB1a.out.size)
 have hz2:w1.heap.size < w2.heap.size:=by have:=hb2.size;simp at this;omega
 have ha2:w2.heap[w1.heap.size]? = some (.cells #[.int .u8 x0,.int .i64 x1,.int .i64 x2,.int .i64 x3,.int .i64 x4,.int .i64 x5,.int .i64 x6,.int .i64 x7] 45 (0,0)):=by rw [hb2.block w1.heap.size (by simp)];exact heap_alloc_new w1 _
 have hr2:w2.heap[w.heap.size]? = some (.cells #[.int .u8 0,.int .i64 0,.int .i64 0,.int .i64 0,.int .i64 0,.int .i64 0,.int .i64 0,.int .i64 0,.int .i64 0] 116 (0,0)):=by
  rw [hb2.block w.heap.size (by simp;omega),heap_alloc_old w1 _ hz1];exact HR1.out
 have A:∀ j,w2.cell? ⟨w1.heap.size,j,none⟩ = (#[.int .u8 x0,.int .i64 x1,.int .i64 x2,.int .i64 x3,.int .i64 x4,.int .i64 x5,.int .i64 x6,.int .i64 x7]:Array Value)[j]?:=fun j=>cell_of_row w2 _ j _ 45 _ ha2
 have R:∀ j,w2.cell? ⟨w.heap.size,j,none⟩ = (#[.int .u8 0,.int .i64 0,.int .i64 0,.int .i64 0,.int .i64 0,.int .i64 0,.int .i64 0,.int .i64 0,.int .i64 0]:Array Value)[j]?:=fun j=>cell_of_row w2 _ j _ 116 _ hr2
 have Z:∀ j,w2.frozen? ⟨w.heap.size,j,none⟩ = false:=fun j=>frozen_of_row w2 _ j _ 116 hr2
 clear hb2 ha2 hr2
 simp only []
 go_wp2
 refine bodyPost_ret (v:=.agg #[.int .u8 x0,.int .i64 x1,.int .i64 x2,.int .i64 x3,.int .i64 x4,.int .i64 x5,.int .i64 x6,.int .i64 x7,.int .i64 dc]) (by simp [results,Tryz.results82,go_sem,R]) rfl ⟨by rw [HG.out],?_⟩
 iterate 9 refine Below.setCell (p:=⟨w.heap.size,_,none⟩) ?_ (Nat.le_refl w.heap.size) _
 exact HB2.out
theorem gotCells_length (s:ByteArray):(gotCells s).length = 9:=rfl
theorem gotCells_one (s:ByteArray):∀ u∈gotCells s,u.oneCell' = true:=by
 intro u hu
 simp only [gotCells,List.mem_cons,List.not_mem_nil,or_false] at hu
 rcases hu with rfl | rfl | rfl | rfl | rfl | rfl | rfl | rfl | rfl <;> rfl
def fr (s:ByteArray) (i:Nat):ByteArray:=s.extract (30 * i) (30 * i + 30)
def gots (s:ByteArray):Nat→List Value
 | 0=>[]
 | n + 1=>gots s n++gotCells (fr s n)
theorem gots_length (s:ByteArray):∀ n,(gots s n).length = n * 9
 | 0=>rfl
 | n + 1=>by rw [gots,List.length_append,gots_length s n,gotCells_length];omega
theorem gots_one (s:ByteArray):∀ n,∀ u∈gots s n,u.oneCell' = true
 | 0,u,hu=>by cases hu
 | n + 1,u,hu=>by
  rcases List.mem_append.1 hu with h | h
  ·exact gots_one s n u h
  ·exact gotCells_one _ u h
theorem gots_at (s:ByteArray):∀ (n i j:Nat),i < n→j < 9→(gots s n)[9 * i + j]? = (gotCells (fr s i))[j]?
 | n + 1,i,j,hi,hj=>by
  rw [gots]
  by_cases h:i < n
  ·rw [List.getElem?_append_left (by rw [gots_length];omega)]
   exact gots_at s n i j h hj
  ·obtain rfl:i = n:=by omega
   rw [List.getElem?_append_right (by rw [gots_length];omega),gots_length]
   congr 1
   omega
theorem fr_piece (s:ByteArray) (m e i:Nat) (h:30 * m + (30 * i + 30)≤e):fr (s.extract (30 * m) e) i = fr s (m + i):=by
 unfold fr
 rw [ByteArray.extract_extract]
 congr 1 <;> omega
theorem info61:∃ i z,Tryz.prog.info? 116 = some i∧i.zero = some z∧i.size = 9∧i.bytes = 72∧z.cells.size = 9:=⟨_,_,rfl,rfl,rfl,rfl,rfl⟩
def Gots (w:World) (base:Nat) (v:Value) (t:ByteArray) (n:Nat):Prop:=w.ownsRow base 116 9 v n (gots t n)
def w_lenV:Value→Nat
 | .string s=>s.size
 | _=>0
theorem extract_head (t:ByteArray) (k:Nat) (h:30 * (k + 1)≤t.size):(t.extract (30 * k) t.size).extract 0 30 = fr t k:=by
 unfold fr
 rw [ByteArray.extract_extract]
 congr 1
 omega
theorem extract_tail (t:ByteArray) (k:Nat) (h:30 * (k + 1)≤t.size):(t.extract (30 * k) t.size).extract 30 (t.size - 30 * k) = t.extract (30 * (k + 1)) t.size:=by
 rw [ByteArray.extract_extract]
 congr 1 <;> omega
set_option maxHeartbeats 1000000 in
theorem feed_any (p o:Nat) (u s:ByteArray) (ad:Nat→Addr) (w:World) (hs:Hid (Sent w ad)) (hp:w.cell? ⟨p,o,none⟩ = some (.string u)) (hf:w.frozen? ⟨p,o,none⟩ = false) (hz:(u++s).size≤100000) :
  Calls Tryz.prog 51 #[.pointer (some ⟨p,o,none⟩),.string s] w fun e w'=>∃ v w1,e = .returned v∧Gots w1 w.heap.size v (u++s) ((u++s).size / 30)∧Below w.heap.size w w1∧w' = w1.setCell ⟨p,o,none⟩ (.string ((u++s).extract (30 * ((u++s).size / 30)) (u++s).size)):=by
 obtain ⟨i61,z61,hi,hz0,hz1,hz2,hz3⟩:=info61
 have Hi:=hide hi;have Hz0:=hide hz0;have Hz1:=hide hz1;have Hz2:=hide hz2;have Hz3:=hide hz3
 clear hi hz0 hz1 hz2 hz3
 have hpl:p < w.heap.size:=World.block_lt_of_cell? _ _ hp
 have hsz:u.size + s.size≤100000:=by simpa using hz
 go_enter Tryz.func51,Tryz.ntmps51
 go_wp2
 generalize ht:u++s = t at *
 have Ht:=hide ht
 clear hsz ht
 go_loopw [1,5] (fun sv v wr=>∃ k:Nat,30 * k≤t.size∧sv = .string (t.extract (30 * k) t.size)∧Gots wr w.heap.size v t k∧Below w.heap.size w wr) (fun sv _ _=>w_lenV sv)
 case atStart=>exact ⟨0,Nat.zero_le _,by simp,World.ownsRow_nil _ _ _ _,Below.refl _ _⟩
 case round =>
  obtain ⟨k,hk,rfl,hg,hb⟩:=hrel
  have HG:=hide hg;have HB:=hide hb
  clear hg hb
  have hes:(t.extract (30 * k) t.size).size = t.size - 30 * k:=by simp
  by_cases hlt:30 * (k + 1)≤t.size
  ·have HH:=hide (extract_head t k hlt)
   have HT:=hide (extract_tail t k hlt)
   have hes2:(t.extract (30 * (k + 1)) t.size).size = t.size - 30 * (k + 1):=by simp
   generalize t.extract (30 * k) t.size = x at *
   have hx30:30≤x.size:=by omega
   have hx30':¬ (x.size:Int) < 30:=by omega
   have hx31:(30:Int)≤x.size:=by omega
   go_wp2_with fail
   rw [HH.out]
   refine (w_take_any (fr t k) ad _ (hs.out.later HB.out)).mono ?_
   rintro e w2 ⟨rfl,hb2⟩
   obtain ⟨x0,x1,x2,x3,x4,x5,x6,x7,dc,hgc⟩:∃ x0 x1 x2 x3 x4 x5 x6 x7 dc:Nat,gotCells (fr t k) = [.int .u8 x0,.int .i64 x1,.int .i64 x2,.int .i64 x3,.int .i64 x4,.int .i64 x5,.int .i64 x6,.int .i64 x7,.int .i64 dc]:=⟨_,_,_,_,_,_,_,_,_,rfl⟩
   rw [hgc]
   have HGC:=hide hgc
   have HB2:Hid (Below w.heap.size w w2):=HB.out.trans (hb2.mono HB.out.size)
   have HG2:Hid (Gots w2 w.heap.size u5 t k):=HG.out.kept (row:=none) ⟨hb2.os,hb2.tape,hb2.output,hb2.size,fun j hj _=>hb2.block j hj⟩ (by cases u5.ownBlock <;> simp)
   clear hgc hb2
   simp only []
   go_wp2_with (at_builtin;refine wpList_append_own _ rfl _ _ 113 rfl w.heap.size 116 i61 z61 9 72 Tryz.underlying113 Hi.out Hz0.out Hz1.out Hz2.out Hz3.out (by decide) _ _ _ rfl (World.ownsRow.alloc HG2.out _) ⟨w2.heap.size,0,none⟩ 1 1 [.int .u8 x0,.int .i64 x1,.int .i64 x2,.int .i64 x3,.int .i64 x4,.int .i64 x5,.int .i64 x6,.int .i64 x7,.int .i64 dc] rfl rfl ?c1 ?c2 ?c3 ?c4 ?c5 ?_)
   case c1 =>
    intro j u hj
    have hp:(⟨w2.heap.size,0,none⟩:Addr).add j = ⟨w2.heap.size,j,none⟩:=by unfold Addr.add;split <;> simp_all
    rw [hp,cell_of_row _ _ j _ 116 _ (heap_alloc_new w2 _)]
    simpa using hj
   case c2=>exact fun u hu=>gotCells_one (fr t k) u (by rw [HGC.out];exact hu)
   case c3=>unfold maxLen;omega
   case c4=>omega
   case c5=>have:=HB2.out.size;simp;omega
   intro v3 w3 hown' hgrow _
   have HG3:Hid (Gots w3 w.heap.size v3 t (k + 1)):=by
    show w3.ownsRow w.heap.size 116 9 v3 (k + 1) (gots t k++gotCells (fr t k))
    rw [HGC.out]
    exact hown'
   have HB3:Hid (Below w.heap.size w w3):=(HB2.out.alloc HB2.out.size _).grown hgrow (by have:=HB2.out.size;simp;omega) (fun k hk=>(World.ownsRow.lt HG2.out k hk).1)
   clear hown' hgrow
   go_wp2
   rw [HT.out]
   exact ⟨⟨k + 1,hlt,rfl,HG3.out,HB3.out⟩,by simp only [w_lenV];omega⟩
  ·have hx30:(t.size - 30 * k) < 30:=by omega
   have hx30':((t.extract (30 * k) t.size).size:Int) < 30:=by omega
   have hkk:t.size / 30 = k:=by omega
   have Hkk:=hide hkk
   clear hkk
   have hps:(t.extract (30 * k) t.size).size≤281474976710656:=by omega
   generalize hX:t.extract (30 * k) t.size = x at *
   have HX:=hide hX
   clear hX
   go_wp2_with fail
   refine (w_clone_any x wr hps).mono ?_
   rintro e w2 ⟨rfl,hb2⟩
   have HB2:Hid (Below w.heap.size w w2):=HB.out.trans (hb2.mono HB.out.size)
   have HG2:Hid (Gots w2 w.heap.size u5 t k):=HG.out.kept (row:=none) ⟨hb2.os,hb2.tape,hb2.output,hb2.size,fun j hj _=>hb2.block j hj⟩ (by cases u5.ownBlock <;> simp)
   have hp2:w2.cell? ⟨p,o,none⟩ = some (.string u):=by rw [HB2.out.cell (p:=⟨p,o,none⟩) hpl];exact hp
   have hf2:w2.frozen? ⟨p,o,none⟩ = false:=by rw [HB2.out.frozen (p:=⟨p,o,none⟩) hpl];exact hf
   clear hb2
   simp only []
   go_wp2
   go_ret
   exact ⟨u5,w2,rfl,by rw [Ht.out,Hkk.out];exact HG2.out,HB2.out,by rw [Ht.out,Hkk.out,HX.out]⟩
end Go.Proofs.YtidahfhingdlmaaGreatDoor
