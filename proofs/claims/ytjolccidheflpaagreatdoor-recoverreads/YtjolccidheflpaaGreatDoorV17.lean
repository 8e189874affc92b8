/- What the library's functions ask of a world, and their contracts in it. -/
import Derived.Test.YtjolccidheflpaaGreatDoorV15
import Derived.Test.YtjolccidheflpaaGreatDoorV16
import Derived.Lib.AppendIntMem
namespace Go.Proofs.YtjolccidheflpaaGreatDoor
set_option maxHeartbeats 8000000
open Go.RowKit Go.Shelf
set_option maxRecDepth 100000
structure jM (w:World):Prop where
 num:zw w
 mx:∃ m,w.cell? ⟨13,0,none⟩=some (.int .i64 m)
theorem jM.later {w W:World} (h:jM w) (k:Below w.heap.size w W):jM W :=
 ⟨h.num.later k,h.mx.imp fun m hm=>by rw[k.cell (bCq _ _ hm)];exact hm⟩
theorem al4 {w:World} {te:TypeId} {pe:Value} {m:Int} (Zo:w.cell? ⟨14,0,none⟩=some (.iface te pe)) (hmx:w.cell? ⟨13,0,none⟩=some (.int .i64 m))
  (ht:Lib.TabBelow Tryz.prog w.heap.size w "internal/strconv.uint64pow10" .u64 Lib.pow10Tab):jM w:=by
 refine⟨⟨fun s n W hW hs ha=>?_,fun s W hW hs ha=>?_,fun n W hW h0 h1=>?_⟩,m,hmx⟩
 ·refine(strconv_Atoi s n hs ha W).mono ?_
  rintro e w' ⟨rfl,t,rfl⟩;exact⟨rfl,Lib.bytesWorld_below W 5 t⟩
 ·refine(strconv_Atoi_err s hs ha (.iface te pe) W (by rw[hW.cell (bCq _ _ Zo)];exact Zo) (.inr ⟨te,pe,rfl⟩)).mono ?_
  rintro e w' ⟨N,rfl,_,_,hb⟩;exact⟨⟨_,_,_,rfl⟩,hb⟩
 ·refine(strconv_Itoa n h0 h1 W (ht W hW)).mono ?_
  rintro e w' ⟨rfl,k,os,rfl⟩;exact⟨rfl,Lib.below_grow _ W (lRq _) k os⟩
theorem Zp (s:ByteArray) (c:UInt8) (w:World) (h:jM w) (hs:s.size<=1000000000) :
  Calls Tryz.prog 81 #[.string s,.string ⟨#[c]⟩] w fun e w'=>e=.returned (.tuple #[.string (ai (Lib.cut s.data.toList [c]).1),.string (ai (Lib.cut s.data.toList [c]).2.1),.bool (Lib.cut s.data.toList [c]).2.2])∧Below w.heap.size w w':=by
 obtain⟨m,hm⟩:=h.mx;refine(strings_Cut s ⟨#[c]⟩ m w (by omega) hm).mono ?_;rintro e w' ⟨rfl,n,rfl⟩;exact⟨rfl,⟨rfl,rfl,rfl,lRq _,fun _ _=>rfl⟩⟩
end Go.Proofs.YtjolccidheflpaaGreatDoor
