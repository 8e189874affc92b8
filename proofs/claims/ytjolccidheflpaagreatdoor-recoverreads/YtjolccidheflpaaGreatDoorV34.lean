/- take: what a frame is, as a Reader tells it. -/
import Derived.Test.YtjolccidheflpaaGreatDoorV32
import Derived.Test.YtjolccidheflpaaGreatDoorV33
namespace Go.Proofs.YtjolccidheflpaaGreatDoor
set_option maxHeartbeats 8000000
open Go.RowKit
set_option maxRecDepth 100000
theorem W9 (n:Nat) (hn:n<=12) (ad:Nat->Addr) (w:World) (hs:cP w ad) :
  Calls Tryz.prog 49 #[ja ad n] w fun e w'=>e=.returned (.tuple #[.int .i64 n,.int .i64 (-1)])∧Below w.heap.size w w':=by
 by_cases h:n=0
 ·subst h
  exact(acx w).mono fun e w' ⟨h1,h2⟩=>⟨h1,by rw[h2];exact bRq _ _⟩
 ·rw[xL ad h]
  have:=acB (n-1) (by omega) ad w hs
  rw[show ((n-1:Nat):Int)+1=(n:Int) by omega]at this;exact this
def fj (s:ByteArray) (x:Nat):Nat:=if bM s=0 then x else 0
def NV (s:ByteArray):List Value:=[.int .u8 (fj s (az s 0)),.int .i64 (fj s (az s 1)),.int .i64 (fj s (av s 2)),.int .i64 (fj s (az s 6)),.int .i64 (fj s (az s 7)),.int .i64 (fj s (av s 8)),.int .i64 (fj s (av s 12)),.int .i64 (fj s (av s 16)),.int .i64 (bM s)]
theorem aiy (s:ByteArray):kS s=.agg #[.int .u8 (fj s (az s 0)),.int .i64 (fj s (az s 1)),.int .i64 (fj s (av s 2)),.int .i64 (fj s (az s 6)),.int .i64 (fj s (az s 7)),.int .i64 (fj s (av s 8)),.int .i64 (fj s (av s 12)),.int .i64 (fj s (av s 16))]:=by
 unfold kS fj;split <;> rfl
theorem aiz (s:ByteArray):∀ u∈NV s,u.oneCell'=true:=by
 intro u hu;simp only[NV,List.mem_cons,List.not_mem_nil,or_false]at hu;rcases hu with rfl | rfl | rfl | rfl | rfl | rfl | rfl | rfl | rfl <;> rfl
def fr (s:ByteArray) (i:Nat):ByteArray:=s.extract (30*i) (30*i+30)
def jJ (s:ByteArray):Nat->List Value
 | 0=>[]
 | n+1=>jJ s n++NV (fr s n)
theorem GZ (s:ByteArray):∀ n,∀ u∈jJ s n,u.oneCell'=true
 | 0,u,hu=>by cases hu
 | n+1,u,hu=>by
  rcases List.mem_append.1 hu with h | h
  ·exact GZ s n u h
  ·exact aiz _ u h
end Go.Proofs.YtjolccidheflpaaGreatDoor
