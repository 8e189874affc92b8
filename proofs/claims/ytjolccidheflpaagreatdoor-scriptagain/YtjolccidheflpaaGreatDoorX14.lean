/- digits.Read, by its contract: the library's Atoi and Itoa are premises. -/
import Derived.Test.YtjolccidheflpaaGreatDoorX13
import Derived.Lib.AtoiBound
import Derived.Lib.ItoaLen
namespace Go.Proofs.YtjolccidheflpaaGreatDoor
open Go.Proofs.Tryz
set_option maxHeartbeats 8000000
set_option maxRecDepth 100000
open Go.RowKit Go.Shelf
def gK(m:Nat)(s:ByteArray):Option Nat:=if m<s.size then none else match Lib.atoi s.data.toList with
 | none=>none
 | some n=>if n<0 then none else if (⟨(Lib.itoa n).toArray⟩:ByteArray)=s then some n.toNat else none
structure Bi (w:World):Prop where
 ok:∀(s:ByteArray) (n:Int) (W:World),U w W->s.size<=18->Lib.atoi s.data.toList=some n->Calls prog 144 #[.string s] W fun e w'=>e=.returned (.tuple #[Z n,.nilIface])/\U W w'
 err:∀(s:ByteArray) (W:World),U w W->s.size<=18->Lib.atoi s.data.toList=none->Calls prog 144 #[.string s] W fun e w'=>(∃n te pe,e=.returned (.tuple #[Z n,.iface te pe]))/\U W w'
 itoa:∀(n:Int) (W:World),U w W->-9223372036854775808<=n->n<=9223372036854775807->Calls prog 145 #[Z n] W fun e w'=>e=.returned (.string ⟨(Lib.itoa n).toArray⟩)/\U W w'
theorem Bi.later{w W:World}(h:Bi w)(k:U w W):Bi W :=
 ⟨fun s n V hV=>h.ok s n V (ar k hV),fun s V hV=>h.err s V (ar k hV),fun n V hV=>h.itoa n V (ar k hV)⟩
theorem PG(m:Nat)(hm:m<=18)(s:ByteArray)(W:World)(h:Bi W):
  Calls prog 82 #[.string s,Z m] W fun e w'=>e=.returned (.tuple #[Z ((gK m s).getD 0),.bool (gK m s).isSome])/\U W w':=by
 by_cases mX:m<s.size
 .have arF:(m:Int)<s.size:=by omega
  have e0:gK m s=none:=by rw[gK,if_pos mX]
  rw[e0];go_enter func82,ntmps82;go_wp2;go_ret2;exact⟨rfl,bRq _ _⟩
 .have arF:¬ (m:Int)<s.size:=by omega
  cases ha:Lib.atoi s.data.toList with
  | none =>
   have e0:gK m s=none:=by rw[gK,if_neg mX,ha]
   rw[e0];go_enter func82,ntmps82
   go_wp2_with fail
   refine(h.err s W (bRq _ _) (by omega) ha).mono ?_;rintro e w1 ⟨⟨n,te,pe,rfl⟩,hb⟩;go_wp2;go_ret2;exact⟨rfl,hb⟩
  | some n =>
   have e0:gK m s=if n<0 then none else if (⟨(Lib.itoa n).toArray⟩:ByteArray)=s then some n.toNat else none:=by rw[gK,if_neg mX,ha]
   by_cases hn:n<0
   .rw[e0,if_pos hn]
    go_enter func82,ntmps82
    go_wp2_with fail
    refine(h.ok s n W (bRq _ _) (by omega) ha).mono ?_;rintro e w1 ⟨rfl,hb⟩;go_wp2;go_ret2;exact⟨rfl,hb⟩
   .have Jx:n<=9223372036854775807:=by have:=(Lib.atoi_bound ha (by rw[Array.length_toList];show s.size<=18;omega)).2;omega
    rw[e0,if_neg hn];by_cases hq:(⟨(Lib.itoa n).toArray⟩:ByteArray)=s
    .rw[if_pos hq]
     go_enter func82,ntmps82
     go_wp2_with fail
     refine(h.ok s n W (bRq _ _) (by omega) ha).mono ?_;rintro e w1 ⟨rfl,hb⟩
     go_wp2_with fail
     refine(h.itoa n w1 hb (by omega) Jx).mono ?_;rintro e w2 ⟨rfl,hb2⟩;go_wp2;go_ret2;exact⟨by simp;omega,ar hb hb2⟩
    .rw[if_neg hq]
     have AO:(Lib.itoa n==s.toList)=false:=by
      cases hb:(Lib.itoa n==s.toList)
      .rfl
      .exact(hq (by rw[beq_iff_eq.1 hb,ByteArray.toList_eq])).elim
     go_enter func82,ntmps82
     go_wp2_with fail
     refine(h.ok s n W (bRq _ _) (by omega) ha).mono ?_;rintro e w1 ⟨rfl,hb⟩
     go_wp2_with fail
     refine(h.itoa n w1 hb (by omega) Jx).mono ?_;rintro e w2 ⟨rfl,hb2⟩;go_wp2;go_ret2;exact⟨rfl,ar hb hb2⟩
end Go.Proofs.YtjolccidheflpaaGreatDoor
