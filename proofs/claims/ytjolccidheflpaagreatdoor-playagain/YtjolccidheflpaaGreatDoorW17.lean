/- What the library's functions ask of a world, and their contracts in it. -/
import Derived.Test.YtjolccidheflpaaGreatDoorW15
import Derived.Test.YtjolccidheflpaaGreatDoorW16
import Derived.Lib.AppendIntMem
namespace Go.Proofs.YtjolccidheflpaaGreatDoor
set_option maxHeartbeats 8000000
set_option maxRecDepth 100000
open Go.RowKit Go.Shelf
structure kI (w:World):Prop where
 num:zN w
 mx:∃ m,w.cell? (Qb 13 0)=some (Qa m)
theorem kI.later {w W:World} (h:kI w) (k:Qd w W):kI W :=
 ⟨h.num.later k,h.mx.imp fun m hm=>by rw[k.cell (bCq _ _ hm)];exact hm⟩
theorem amL {w:World} {te:TypeId} {pe:Value} {m:Int} (Z3:w.cell? (Qb 14 0)=some (.iface te pe)) (hmx:w.cell? (Qb 13 0)=some (Qa m))
  (ht:Lib.TabBelow Tryz.prog w.heap.size w "internal/strconv.uint64pow10" .u64 Lib.pow10Tab):kI w:=by
 refine⟨⟨fun s n W hW hs ha=>?_,fun s W hW hs ha=>?_,fun n W hW h0 h1=>?_⟩,m,hmx⟩
 .refine(strconv_Atoi s n hs ha W).mono ?_
  rintro e w' ⟨rfl,t,rfl⟩;exact⟨rfl,Lib.bytesWorld_below W 5 t⟩
 .refine(strconv_Atoi_err s hs ha (.iface te pe) W (by rw[hW.cell (bCq _ _ Z3)];exact Z3) (.inr ⟨te,pe,rfl⟩)).mono ?_
  rintro e w' ⟨N,rfl,_,_,hb⟩;exact⟨⟨_,_,_,rfl⟩,hb⟩
 .refine(strconv_Itoa n h0 h1 W (ht W hW)).mono ?_
  rintro e w' ⟨rfl,k,os,rfl⟩;exact⟨rfl,Lib.below_grow _ W (lRq _) k os⟩
theorem Z4 (s:ByteArray) (c:UInt8) (w:World) (h:kI w) (hs:s.size<=1000000000) :
  Calls Tryz.prog 81 #[.string s,.string ⟨#[c]⟩] w fun e w'=>e=.returned (.tuple #[.string (bn (Lib.cut s.data.toList [c]).1),.string (bn (Lib.cut s.data.toList [c]).2.1),.bool (Lib.cut s.data.toList [c]).2.2])/\Qd w w':=by
 obtain⟨m,hm⟩:=h.mx;refine(strings_Cut s ⟨#[c]⟩ m w (by omega) hm).mono ?_;rintro e w' ⟨rfl,n,rfl⟩;exact⟨rfl,⟨rfl,rfl,rfl,lRq _,fun _ _=>rfl⟩⟩
end Go.Proofs.YtjolccidheflpaaGreatDoor
