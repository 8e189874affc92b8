/- What VenueParts wants beside two venues: a row of six numbers, cuts that came in, two texts that are one, how many reports a feed has. -/
import Derived.Test.YtidahfhingdlmaaGreatDoorZVpPair
import Derived.Test.YtidahfhingdlmaaGreatDoorZVpFacts
import Derived.Test.YtidahfhingdlmaaGreatDoorZVpAlike
import Derived.Test.YtidahfhingdlmaaGreatDoorU10
import Derived.Test.YtidahfhingdlmaaGreatDoorZVeOpen
import Derived.Test.YtidahfhingdlmaaGreatDoorZVeLong
import Derived.Test.YtidahfhingdlmaaGreatDoorU37
import Derived.Test.YtidahfhingdlmaaGreatDoorZManyN
namespace Go.Proofs.YtidahfhingdlmaaGreatDoor
open Go.RowKit
set_option maxRecDepth 100000
def nxV (f:Nat→Int) (k j:Nat):Value:=.int .i64 (if j < k then f j else 0)
def nxRow (f:Nat→Int) (k:Nat):Array Value:=#[nxV f k 0,nxV f k 1,nxV f k 2,nxV f k 3,nxV f k 4,nxV f k 5]
theorem nxRow_zero (f:Nat→Int):nxRow f 0 = #[.int .i64 0,.int .i64 0,.int .i64 0,.int .i64 0,.int .i64 0,.int .i64 0]:=rfl
theorem nxRow_at (f:Nat→Int) (k:Nat) {j:Nat} (h:j < 6):(nxRow f k)[j]? = some (nxV f k j):=by
 have:j = 0∨j = 1∨j = 2∨j = 3∨j = 4∨j = 5:=by omega
 rcases this with rfl | rfl | rfl | rfl | rfl | rfl <;> rfl
theorem nxRow_set (f:Nat→Int) {k:Nat} (h:k < 6):(nxRow f k).setIfInBounds k (.int .i64 (f k)) = nxRow f (k + 1):=by
 have:k = 0∨k = 1∨k = 2∨k = 3∨k = 4∨k = 5:=by omega
 rcases this with rfl | rfl | rfl | rfl | rfl | rfl <;> rfl
section
variable {w W W':World} {B B':Vb} {X X':Vx} {wd h seed:Int} {S S':Ve.St}
theorem Pair.aside {T:Nat→Prop} (P:Pair w W B B' X X' wd h seed S S') (ht:Turned W W' T) (h1:∀ k,T k→¬ vown B X k∧¬ vown B' X' k∧k≠B.F∧k≠B'.F∧w.heap.size≤k):Pair w W' B B' X X' wd h seed S S' :=
 ⟨P.a.aside ht (fun e=>(h1 _ e).2.2.1 rfl) (fun k hk e=>(h1 k e).1 hk) (fun k e=>(h1 k e).2.2.2.2),P.b.aside ht (fun e=>(h1 _ e).2.2.2.1 rfl) (fun k hk e=>(h1 k e).2.1 hk) (fun k e=>(h1 k e).2.2.2.2),P.ap,P.fa,P.fb⟩
theorem Pair.row {p:Nat} {cur:Array Value} {fz:Nat × Nat} (P:Pair w W B B' X X' wd h seed S S') (hp:W.heap[p]? = some (.cells cur 73 fz)) (hlo:w.heap.size≤p) (j:Nat) (u:Value):Pair w (W.setCell ⟨p,j,none⟩ u) B B' X X' wd h seed S S' :=
 P.aside (Turned.setCell W p j u) (fun k hk=>by
  subst hk
  exact ⟨vown_type P.a hp (by decide),vown_type P.b hp (by decide),blkT hp P.a.fl.blk (by decide),blkT hp P.b.fl.blk (by decide),hlo⟩)
theorem Pair.grown {base n:Nat} {v:Value} {xs:List Value} (P:Pair w W B B' X X' wd h seed S S') (hr:W.ownsRow base 50 6 v n xs) (hb:w.heap.size≤base) (hg:W.grownBy W' v.ownBlock):Pair w W' B B' X X' wd h seed S S' :=
 ⟨P.a.grown hr (by decide) (by decide) hb hg,P.b.grown hr (by decide) (by decide) hb hg,P.ap,P.fa,P.fb⟩
theorem hears_len (S:Ve.St) (n:Nat) (b:ByteArray):∀ k,(Ve.hearsR S n b k).length≤k
 | 0=>Nat.le_refl _
 | k + 1=>by
  have h1:=hears_len S n b k
  have h2:(Ve.hearR (Ve.hearsS S n b k) n (fr b k)).length≤1:=by
   unfold Ve.hearR
   split
   ·split
    ·split <;> simp
    ·simp
   ·simp
  rw [Ve.hearsR,List.length_append];omega
theorem feed_few {S:Ve.St} {n:Nat} (hn:n < 6) (hl:∀ c,c < 6→(S.lf c).size < 30) {s:ByteArray} (hs:s.size≤400):(Ve.feedR S n s).length≤20:=by
 by_cases hdn:S.down = true∨Wi.withinB (n:Int) 0 5 = false
 ·unfold Ve.feedR;rw [if_pos hdn];exact Nat.zero_le _
 ·have:=hears_len (Ve.fedS S n (S.lf n++s)) n (S.lf n++s) ((S.lf n++s).size / 30)
  unfold Ve.feedR
  rw [if_neg hdn,show ((n:Int)).toNat = n by omega]
  have h2:=hl n hn
  rw [ByteArray.size_append] at this ⊢
  omega
theorem extract_more (s:ByteArray) {i j:Nat} (h:i≤j):s.extract 0 i++s.extract i j = s.extract 0 j:=by
 apply ByteArray.ext
 rw [ByteArray.data_append,ByteArray.data_extract,ByteArray.data_extract,ByteArray.data_extract]
 simp [Array.extract_append_extract,h]
end
set_option maxHeartbeats 1000000 in
theorem text_same (p q:Nat) (s:ByteArray) (w:World) (hp:w.cell? ⟨p,0,none⟩ = some (.string s)) (hq:w.cell? ⟨q,0,none⟩ = some (.string s)) :
  Calls Tryz.prog 32 #[.slice (some ⟨p,0,none⟩) 1 1,.slice (some ⟨q,0,none⟩) 1 1] w fun e w'=>e = .returned (.bool true)∧Below w.heap.size w w':=by
 go_enter Tryz.func32,Tryz.ntmps32
 go_wp2
 refine wp_loop_rounds 2 ?_
 rw [rounds_succ]
 go_wp2
 go_quiet (fail)
 go_wp2
 rw [rounds_succ]
 go_wp2
 go_ret
 exact ⟨rfl,blw_drew nq⟩
end Go.Proofs.YtidahfhingdlmaaGreatDoor
