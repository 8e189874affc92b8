/- The sort of numbers, their turning round, the keys of a map, by the contracts of the library that is given, at this program. -/
import Derived.Test.YtjolccidheflpaaGreatDoorW00
import Derived.Shelf.Sort.Plain
import Derived.Shelf.Slices.Reverse
import Derived.Shelf.Slices.In.SortNone
import Derived.Shelf.SlIterI.Nil
import Derived.Test.YtjolccidheflpaaGreatDoorProg
namespace Go.Proofs.YtjolccidheflpaaGreatDoor
set_option maxHeartbeats 8000000
set_option maxRecDepth 100000
open Go.Shelf
def aji:Go.Shelf.Ren:=⟨fun | 189=>312 | 125=>318 | 257=>317 | 128=>329 | 129=>274 | 294=>320 | 295=>321 | 296=>322 | 297=>323 | 298=>324 | 299=>325 | 216=>326 | 300=>327 | 301=>328 | 328=>330 | 329=>331 | 330=>332 | 331=>333 | 332=>334 | 215=>335 | 343=>336 | n=>n,fun | 28=>23 | 3=>3 | 46=>245 | 0=>0 | 51=>41 | 53=>330 | 4=>4 | 183=>434 | 182=>433 | 131=>162 | 5=>5 | 9=>9 | 218=>439 | 222=>325 | 228=>444 | 229=>98 | n=>n,fun | n=>n⟩
theorem XA:Go.Proofs.Lays.n189 Tryz.prog aji:={
 mixed:=by kernel_rfl
 f125:=Tryz.func318.trans (congrArg some (by kernel_rfl))
 f128:=Tryz.func329.trans (congrArg some (by kernel_rfl))
 f129:=Tryz.func274.trans (congrArg some (by kernel_rfl))
 f189:=Tryz.func312.trans (congrArg some (by kernel_rfl))
 f215:=Tryz.func335.trans (congrArg some (by kernel_rfl))
 f216:=Tryz.func326.trans (congrArg some (by kernel_rfl))
 f257:=Tryz.func317.trans (congrArg some (by kernel_rfl))
 f294:=Tryz.func320.trans (congrArg some (by kernel_rfl))
 f295:=Tryz.func321.trans (congrArg some (by kernel_rfl))
 f296:=Tryz.func322.trans (congrArg some (by kernel_rfl))
 f297:=Tryz.func323.trans (congrArg some (by kernel_rfl))
 f298:=Tryz.func324.trans (congrArg some (by kernel_rfl))
 f299:=Tryz.func325.trans (congrArg some (by kernel_rfl))
 f300:=Tryz.func327.trans (congrArg some (by kernel_rfl))
 f301:=Tryz.func328.trans (congrArg some (by kernel_rfl))
 f328:=Tryz.func330.trans (congrArg some (by kernel_rfl))
 f329:=Tryz.func331.trans (congrArg some (by kernel_rfl))
 f330:=Tryz.func332.trans (congrArg some (by kernel_rfl))
 f331:=Tryz.func333.trans (congrArg some (by kernel_rfl))
 f332:=Tryz.func334.trans (congrArg some (by kernel_rfl))
 f343:=Tryz.func336.trans (congrArg some (by kernel_rfl))
 t0:=Tryz.underlying0
 a0:=Tryz.isAgg0
 z0:=Tryz.sizeOf0
 v0:=Tryz.zeroValue0
 t3:=Tryz.underlying3
 a3:=Tryz.isAgg3
 z3:=Tryz.sizeOf3
 v3:=Tryz.zeroValue3
 t4:=Tryz.underlying4
 a4:=Tryz.isAgg4
 z4:=Tryz.sizeOf4
 v4:=Tryz.zeroValue4
 t5:=Tryz.underlying5
 a5:=Tryz.isAgg5
 z5:=Tryz.sizeOf5
 v5:=Tryz.zeroValue5
 t9:=Tryz.underlying9
 a9:=Tryz.isAgg9
 z9:=Tryz.sizeOf9
 v9:=Tryz.zeroValue9
 t28:=Tryz.underlying23
 a28:=Tryz.isAgg23
 z28:=Tryz.sizeOf23
 v28:=Tryz.zeroValue23
 t46:=Tryz.underlying245
 a46:=Tryz.isAgg245
 z46:=Tryz.sizeOf245
 v46:=Tryz.zeroValue245
 t51:=Tryz.underlying41
 a51:=Tryz.isAgg41
 z51:=Tryz.sizeOf41
 v51:=Tryz.zeroValue41
 t53:=Tryz.underlying330
 a53:=Tryz.isAgg330
 z53:=Tryz.sizeOf330
 v53:=Tryz.zeroValue330
 t131:=Tryz.underlying162
 a131:=Tryz.isAgg162
 z131:=Tryz.sizeOf162
 v131:=Tryz.zeroValue162
 t182:=Tryz.underlying433
 a182:=Tryz.isAgg433
 z182:=Tryz.sizeOf433
 v182:=Tryz.zeroValue433
 t183:=Tryz.underlying434
 a183:=Tryz.isAgg434
 z183:=Tryz.sizeOf434
 v183:=Tryz.zeroValue434
 t218:=Tryz.underlying439
 a218:=Tryz.isAgg439
 z218:=Tryz.sizeOf439
 v218:=Tryz.zeroValue439
 t222:=Tryz.underlying325
 a222:=Tryz.isAgg325
 z222:=Tryz.sizeOf325
 v222:=Tryz.zeroValue325
 t228:=Tryz.underlying444
 a228:=Tryz.isAgg444
 z228:=Tryz.sizeOf444
 v228:=Tryz.zeroValue444
 t229:=Tryz.underlying98
 a229:=Tryz.isAgg98
 z229:=Tryz.sizeOf98
 v229:=Tryz.zeroValue98 }
open Go.Sort Go.RowKit in
theorem slices_Sort_int (blk off cap:Nat) (zs:List Int) (w:World) (hH:Holds (Value.int .i64) w blk off zs.toArray) (hblk:blk<w.heap.size) (hsz:zs.length<4611686018427387904) :
  Calls Tryz.prog 312 #[.slice (some (Qb blk off)) zs.length cap] w fun e w' =>
   e=.returned (.tuple #[])/\∃ n os,w'=grow (putRow (Value.int .i64) (Sort.ahead w n) blk off (zs.mergeSort fun x y=>decide (x<=y)).toArray) os:=Any.slices_Sort_int XA blk off cap zs w hH hblk hsz
def ajj:Go.Shelf.Ren:=⟨fun | 112=>305 | n=>n,fun | 28=>23 | 3=>3 | 4=>4 | 0=>0 | n=>n,fun | n=>n⟩
theorem XB:Go.Proofs.Lays.n112 Tryz.prog ajj:={
 mixed:=by kernel_rfl
 f112:=Tryz.func305.trans (congrArg some (by kernel_rfl))
 t0:=Tryz.underlying0
 a0:=Tryz.isAgg0
 z0:=Tryz.sizeOf0
 v0:=Tryz.zeroValue0
 t3:=Tryz.underlying3
 a3:=Tryz.isAgg3
 z3:=Tryz.sizeOf3
 v3:=Tryz.zeroValue3
 t4:=Tryz.underlying4
 a4:=Tryz.isAgg4
 z4:=Tryz.sizeOf4
 v4:=Tryz.zeroValue4
 t28:=Tryz.underlying23
 a28:=Tryz.isAgg23
 z28:=Tryz.sizeOf23
 v28:=Tryz.zeroValue23 }
open Go.RowKit Go.Lib Go.Sort in
theorem slices_Reverse_int (blk off cap:Nat) (zs:List Int) (w:World) (hH:Holds (Value.int .i64) w blk off zs.toArray) (hsz:zs.length<=9223372036854775807) :
  Calls Tryz.prog 305 #[.slice (some (Qb blk off)) zs.length cap] w fun e w'=>e=.returned (.tuple #[])/\∃ n,w'=putRow (Value.int .i64) (Sort.ahead w n) blk off zs.reverse.toArray:=Any.slices_Reverse_int XB blk off cap zs w hH hsz
open Go.RowKit Go.Lib Go.Sort in
theorem slices_Reverse_int_empty (a:Option Addr) (cap:Nat) (w:World) :
  Calls Tryz.prog 305 #[.slice a 0 cap] w fun e w'=>e=.returned (.tuple #[])/\w'=w:=Any.slices_Reverse_int_empty XB a cap w
open Go.RowKit Go.Sort in
theorem slices_Sort_int_none (p:Option Addr) (cap:Nat) (w:World) :
  Calls Tryz.prog 312 #[.slice p 0 cap] w fun e w'=>e=.returned (.tuple #[])/\w'=w:=Any.slices_Sort_int_none XA p cap w
def Ws:Go.Shelf.Ren:=⟨fun | 7=>304 | 10=>313 | n=>n,fun | 23=>374 | 26=>3 | 3=>406 | 28=>421 | 0=>0 | 27=>420 | 33=>182 | 4=>4 | n=>n,fun | n=>n⟩
theorem Wp:Go.Proofs.SlLaysZI.n7 Tryz.prog Ws:={
 mixed:=by kernel_rfl
 f7:=⟨Tryz.f304.name,by decide,Tryz.func304.trans (congrArg some (by kernel_rfl))⟩
 f10:=⟨Tryz.f313.name,by decide,Tryz.func313.trans (congrArg some (by kernel_rfl))⟩
 t0:=Tryz.underlying0
 a0:=Tryz.isAgg0
 z0:=Tryz.sizeOf0
 v0:=Tryz.zeroValue0
 t4:=Tryz.underlying4
 a4:=Tryz.isAgg4
 z4:=Tryz.sizeOf4
 v4:=Tryz.zeroValue4
 t23:=Tryz.underlying374
 a23:=Tryz.isAgg374
 z23:=Tryz.sizeOf374
 v23:=Tryz.zeroValue374
 t26:=Tryz.underlying3
 a26:=Tryz.isAgg3
 z26:=Tryz.sizeOf3
 v26:=Tryz.zeroValue3
 t27:=Tryz.underlying420
 a27:=Tryz.isAgg420
 z27:=Tryz.sizeOf420
 v27:=Tryz.zeroValue420
 t28:=Tryz.underlying421
 a28:=Tryz.isAgg421
 z28:=Tryz.sizeOf421
 v28:=Tryz.zeroValue421
 t33:=Tryz.underlying182
 a33:=Tryz.isAgg182
 z33:=Tryz.sizeOf182
 v33:=Tryz.zeroValue182 }
def Wn:Go.Shelf.Ren:=⟨fun | 6=>303 | 8=>311 | 9=>312 | 11=>316 | 13=>318 | 12=>317 | 23=>329 | 24=>274 | 14=>320 | 15=>321 | 16=>322 | 17=>323 | 18=>324 | 19=>325 | 20=>326 | 21=>327 | 22=>328 | 25=>330 | 26=>331 | 27=>332 | 28=>333 | 29=>334 | 30=>335 | 31=>336 | n=>n,fun | 26=>3 | 28=>421 | 24=>23 | 0=>0 | 3=>3 | 37=>245 | 48=>41 | 50=>330 | 4=>4 | 40=>434 | 39=>433 | 45=>162 | 5=>5 | 9=>9 | 51=>439 | 55=>325 | 57=>444 | 58=>98 | 33=>182 | n=>n,fun | n=>n⟩
theorem ah2:Go.Proofs.SlLaysZI.n6 Tryz.prog Wn:={
 mixed:=by kernel_rfl
 f6:=⟨Tryz.f303.name,by decide,Tryz.func303.trans (congrArg some (by kernel_rfl))⟩
 f8:=⟨Tryz.f311.name,by decide,Tryz.func311.trans (congrArg some (by kernel_rfl))⟩
 f11:=⟨Tryz.f316.name,by decide,Tryz.func316.trans (congrArg some (by kernel_rfl))⟩
 t0:=Tryz.underlying0
 a0:=Tryz.isAgg0
 z0:=Tryz.sizeOf0
 v0:=Tryz.zeroValue0
 t24:=Tryz.underlying23
 a24:=Tryz.isAgg23
 z24:=Tryz.sizeOf23
 v24:=Tryz.zeroValue23
 t26:=Tryz.underlying3
 a26:=Tryz.isAgg3
 z26:=Tryz.sizeOf3
 v26:=Tryz.zeroValue3
 t28:=Tryz.underlying421
 a28:=Tryz.isAgg421
 z28:=Tryz.sizeOf421
 v28:=Tryz.zeroValue421
 i26:=by kernel_rfl }
end Go.Proofs.YtjolccidheflpaaGreatDoor
