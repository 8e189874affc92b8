/- The sort of numbers, their turning round, the keys of a map, by the contracts of the library that is given, at this program. -/
import Derived.Test.YtjolccidheflpaaGreatDoorX00
import Derived.Shelf.Sort.Plain
import Derived.Shelf.Slices.Reverse
import Derived.Shelf.Slices.In.SortNone
import Derived.Shelf.SlIterI.Nil
namespace Go.Proofs.YtjolccidheflpaaGreatDoor
open Go.Proofs.Tryz
set_option maxHeartbeats 8000000
set_option maxRecDepth 100000
open Go.Shelf
def an3:Go.Shelf.Ren:=⟨fun | 189=>312 | 125=>318 | 257=>317 | 128=>329 | 129=>274 | 294=>320 | 295=>321 | 296=>322 | 297=>323 | 298=>324 | 299=>325 | 216=>326 | 300=>327 | 301=>328 | 328=>330 | 329=>331 | 330=>332 | 331=>333 | 332=>334 | 215=>335 | 343=>336 | n=>n,fun | 28=>23 | 3=>3 | 46=>245 | 0=>0 | 51=>41 | 53=>330 | 4=>4 | 183=>434 | 182=>433 | 131=>162 | 5=>5 | 9=>9 | 218=>439 | 222=>325 | 228=>444 | 229=>98 | n=>n,fun | n=>n⟩
theorem aaa:Go.Proofs.Lays.n189 prog an3:=by constructor <;> first | kernel_rfl | (intro _;kernel_rfl) | (constructor <;> first | kernel_rfl | (intro _;kernel_rfl) | (constructor <;> first | kernel_rfl | (intro _;kernel_rfl)))
open Go.Sort Go.RowKit in
theorem slices_Sort_int(blk off cap:Nat)(zs:List Int)(w:World)(hH:Holds (Value.int .i64) w blk off zs.toArray)(hblk:blk<w.heap.size)(hsz:zs.length<4611686018427387904):
  Calls prog 312 #[.slice (some (O blk off)) zs.length cap] w fun e w' =>
   e=.returned (.tuple #[])/\∃n os,w'=grow (putRow (Value.int .i64) (Sort.ahead w n) blk off (zs.mergeSort fun x y=>decide (x<=y)).toArray) os:=Any.slices_Sort_int aaa blk off cap zs w hH hblk hsz
def an4:Go.Shelf.Ren:=⟨fun | 112=>305 | n=>n,fun | 28=>23 | 3=>3 | 4=>4 | 0=>0 | n=>n,fun | n=>n⟩
theorem aab:Go.Proofs.Lays.n112 prog an4:=by constructor <;> first | kernel_rfl | (intro _;kernel_rfl) | (constructor <;> first | kernel_rfl | (intro _;kernel_rfl) | (constructor <;> first | kernel_rfl | (intro _;kernel_rfl)))
open Go.RowKit Go.Lib Go.Sort in
theorem slices_Reverse_int(blk off cap:Nat)(zs:List Int)(w:World)(hH:Holds (Value.int .i64) w blk off zs.toArray)(hsz:zs.length<=9223372036854775807):
  Calls prog 305 #[.slice (some (O blk off)) zs.length cap] w fun e w'=>e=.returned (.tuple #[])/\∃n,w'=putRow (Value.int .i64) (Sort.ahead w n) blk off zs.reverse.toArray:=Any.slices_Reverse_int aab blk off cap zs w hH hsz
open Go.RowKit Go.Lib Go.Sort in
theorem slices_Reverse_int_empty(a:Option Addr)(cap:Nat)(w:World):
  Calls prog 305 #[.slice a 0 cap] w fun e w'=>e=.returned (.tuple #[])/\w'=w:=Any.slices_Reverse_int_empty aab a cap w
open Go.RowKit Go.Sort in
theorem slices_Sort_int_none(p:Option Addr)(cap:Nat)(w:World):
  Calls prog 312 #[.slice p 0 cap] w fun e w'=>e=.returned (.tuple #[])/\w'=w:=Any.slices_Sort_int_none aaa p cap w
def XN:Go.Shelf.Ren:=⟨fun | 7=>304 | 10=>313 | n=>n,fun | 23=>374 | 26=>3 | 3=>406 | 28=>421 | 0=>0 | 27=>420 | 33=>182 | 4=>4 | n=>n,fun | n=>n⟩
theorem XL:Go.Proofs.SlLaysZI.n7 prog XN:={
 mixed:=by kernel_rfl
 f7:=⟨f304.name,by decide,func304.trans (congrArg some (by kernel_rfl))⟩
 f10:=⟨f313.name,by decide,func313.trans (congrArg some (by kernel_rfl))⟩
 t0:=underlying0
 a0:=isAgg0
 z0:=sizeOf0
 v0:=zeroValue0
 t4:=underlying4
 a4:=isAgg4
 z4:=sizeOf4
 v4:=zeroValue4
 t23:=underlying374
 a23:=isAgg374
 z23:=sizeOf374
 v23:=zeroValue374
 t26:=underlying3
 a26:=isAgg3
 z26:=sizeOf3
 v26:=zeroValue3
 t27:=underlying420
 a27:=isAgg420
 z27:=sizeOf420
 v27:=zeroValue420
 t28:=underlying421
 a28:=isAgg421
 z28:=sizeOf421
 v28:=zeroValue421
 t33:=underlying182
 a33:=isAgg182
 z33:=sizeOf182
 v33:=zeroValue182 }
def XJ:Go.Shelf.Ren:=⟨fun | 6=>303 | 8=>311 | 9=>312 | 11=>316 | 13=>318 | 12=>317 | 23=>329 | 24=>274 | 14=>320 | 15=>321 | 16=>322 | 17=>323 | 18=>324 | 19=>325 | 20=>326 | 21=>327 | 22=>328 | 25=>330 | 26=>331 | 27=>332 | 28=>333 | 29=>334 | 30=>335 | 31=>336 | n=>n,fun | 26=>3 | 28=>421 | 24=>23 | 0=>0 | 3=>3 | 37=>245 | 48=>41 | 50=>330 | 4=>4 | 40=>434 | 39=>433 | 45=>162 | 5=>5 | 9=>9 | 51=>439 | 55=>325 | 57=>444 | 58=>98 | 33=>182 | n=>n,fun | n=>n⟩
theorem aj0:Go.Proofs.SlLaysZI.n6 prog XJ:={
 mixed:=by kernel_rfl
 f6:=⟨f303.name,by decide,func303.trans (congrArg some (by kernel_rfl))⟩
 f8:=⟨f311.name,by decide,func311.trans (congrArg some (by kernel_rfl))⟩
 f11:=⟨f316.name,by decide,func316.trans (congrArg some (by kernel_rfl))⟩
 t0:=underlying0
 a0:=isAgg0
 z0:=sizeOf0
 v0:=zeroValue0
 t24:=underlying23
 a24:=isAgg23
 z24:=sizeOf23
 v24:=zeroValue23
 t26:=underlying3
 a26:=isAgg3
 z26:=sizeOf3
 v26:=zeroValue3
 t28:=underlying421
 a28:=isAgg421
 z28:=sizeOf421
 v28:=zeroValue421
 i26:=by kernel_rfl }
end Go.Proofs.YtjolccidheflpaaGreatDoor
