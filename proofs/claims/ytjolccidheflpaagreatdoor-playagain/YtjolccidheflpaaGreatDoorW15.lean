/- digits.Read, by its contract: the library's Atoi and Itoa are premises. -/
import Derived.Test.YtjolccidheflpaaGreatDoorW14
import Derived.Lib.AtoiBound
import Derived.Lib.ItoaLen
namespace Go.Proofs.YtjolccidheflpaaGreatDoor
set_option maxHeartbeats 8000000
set_option maxRecDepth 100000
open Go.RowKit Go.Shelf
def gR (m:Nat) (s:ByteArray):Option Nat:=if m<s.size then none else match Lib.atoi s.data.toList with
 | none=>none
 | some n=>if n<0 then none else if (⟨(Lib.itoa n).toArray⟩:ByteArray)=s then some n.toNat else none
structure zN (w:World):Prop where
 ok:∀ (s:ByteArray) (n:Int) (W:World),Qd w W->s.size<=18->Lib.atoi s.data.toList=some n->Calls Tryz.prog 144 #[.string s] W fun e w'=>e=.returned (.tuple #[Qa n,.nilIface])/\Qd W w'
 err:∀ (s:ByteArray) (W:World),Qd w W->s.size<=18->Lib.atoi s.data.toList=none->Calls Tryz.prog 144 #[.string s] W fun e w'=>(∃ n te pe,e=.returned (.tuple #[Qa n,.iface te pe]))/\Qd W w'
 itoa:∀ (n:Int) (W:World),Qd w W->-9223372036854775808<=n->n<=9223372036854775807->Calls Tryz.prog 145 #[Qa n] W fun e w'=>e=.returned (.string ⟨(Lib.itoa n).toArray⟩)/\Qd W w'
theorem zN.later {w W:World} (h:zN w) (k:Qd w W):zN W :=
 ⟨fun s n V hV=>h.ok s n V (k.trans (hV.mono k.size)),fun s V hV=>h.err s V (k.trans (hV.mono k.size)),fun n V hV=>h.itoa n V (k.trans (hV.mono k.size))⟩
theorem Z5 (m:Nat) (hm:m<=18) (s:ByteArray) (W:World) (h:zN W) :
  Calls Tryz.prog 82 #[.string s,Qa m] W fun e w'=>e=.returned (.tuple #[Qa ((gR m s).getD 0),.bool (gR m s).isSome])/\Qd W w':=by
 by_cases lU:m<s.size
 .have amM:(m:Int)<s.size:=by omega
  have e0:gR m s=none:=by rw[gR,if_pos lU]
  rw[e0];go_enter Tryz.func82,Tryz.ntmps82;go_wp2;go_ret2;exact⟨rfl,bRq _ _⟩
 .have amM:¬ (m:Int)<s.size:=by omega
  cases ha:Lib.atoi s.data.toList with
  | none =>
   have e0:gR m s=none:=by rw[gR,if_neg lU,ha]
   rw[e0];go_enter Tryz.func82,Tryz.ntmps82
   go_wp2_with fail
   refine(h.err s W (bRq _ _) (by omega) ha).mono ?_;rintro e w1 ⟨⟨n,te,pe,rfl⟩,hb⟩;go_wp2;go_ret2;exact⟨rfl,hb⟩
  | some n =>
   have e0:gR m s=if n<0 then none else if (⟨(Lib.itoa n).toArray⟩:ByteArray)=s then some n.toNat else none:=by rw[gR,if_neg lU,ha]
   by_cases hn:n<0
   .rw[e0,if_pos hn]
    go_enter Tryz.func82,Tryz.ntmps82
    go_wp2_with fail
    refine(h.ok s n W (bRq _ _) (by omega) ha).mono ?_;rintro e w1 ⟨rfl,hb⟩;go_wp2;go_ret2;exact⟨rfl,hb⟩
   .have IX:n<=9223372036854775807:=by have:=(Lib.atoi_bound ha (by rw[Array.length_toList];show s.size<=18;omega)).2;omega
    rw[e0,if_neg hn];by_cases hq:(⟨(Lib.itoa n).toArray⟩:ByteArray)=s
    .rw[if_pos hq]
     go_enter Tryz.func82,Tryz.ntmps82
     go_wp2_with fail
     refine(h.ok s n W (bRq _ _) (by omega) ha).mono ?_;rintro e w1 ⟨rfl,hb⟩
     go_wp2_with fail
     refine(h.itoa n w1 hb (by omega) IX).mono ?_;rintro e w2 ⟨rfl,hb2⟩;go_wp2;go_ret2;exact⟨by simp;omega,hb.trans (hb2.mono hb.size)⟩
    .rw[if_neg hq]
     have zw:(Lib.itoa n==s.toList)=false:=by
      cases hb:(Lib.itoa n==s.toList)
      .rfl
      .exact(hq (by rw[beq_iff_eq.1 hb,ByteArray.toList_eq])).elim
     go_enter Tryz.func82,Tryz.ntmps82
     go_wp2_with fail
     refine(h.ok s n W (bRq _ _) (by omega) ha).mono ?_;rintro e w1 ⟨rfl,hb⟩
     go_wp2_with fail
     refine(h.itoa n w1 hb (by omega) IX).mono ?_;rintro e w2 ⟨rfl,hb2⟩;go_wp2;go_ret2;exact⟨rfl,hb.trans (hb2.mono hb.size)⟩
end Go.Proofs.YtjolccidheflpaaGreatDoor
