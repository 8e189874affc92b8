/- What the library's functions ask of a world, and their contracts in it. -/
import Derived.Test.YtjolccidheflpaaGreatDoorX00
import Derived.Shelf.Small.Strs
import Derived.Shelf.Strconv.Atoi
import Derived.Shelf.Strconv.Itoa3
import Derived.Shelf.Strconv.AtoiErr
import Derived.Shelf.Strings.Search3
import Derived.Shelf.Strings.Cut
import Derived.Test.YtjolccidheflpaaGreatDoorX14
import Derived.Lib.AppendIntMem
namespace Go.Proofs.YtjolccidheflpaaGreatDoor
open Go.Proofs.Tryz
set_option maxHeartbeats 8000000
set_option maxRecDepth 100000
open Go.Shelf
def ar6:Go.Shelf.Ren:=⟨fun | 137=>147 | 217=>200 | 266=>235 | n=>n,fun | 9=>9 | 5=>5 | 3=>3 | n=>n,fun | n=>n⟩
theorem ar7:Go.Proofs.Lays.n137 prog ar6:=by constructor <;> first | kernel_rfl | (intro _;kernel_rfl) | (constructor <;> first | kernel_rfl | (intro _;kernel_rfl) | (constructor <;> first | kernel_rfl | (intro _;kernel_rfl)))
open Go.RowKit in
theorem strings_IndexByte(s:ByteArray)(c:Int)(w:World):
  Calls prog 147 #[.string s,.int .u8 c] w fun e w'=>e=.returned (Z (Lib.indexByte s.data.toList c.toNat.toUInt8))/\w'=w:=Any.strings_IndexByte ar7 s c w
def ar8:Go.Shelf.Ren:=⟨fun | 172=>144 | 244=>194 | 245=>195 | 247=>228 | 279=>229 | 280=>230 | 281=>231 | 282=>232 | 287=>268 | 316=>169 | 171=>145 | 205=>269 | 321=>292 | 322=>293 | 243=>196 | 246=>233 | 283=>240 | 284=>241 | 285=>242 | 286=>243 | 129=>274 | 317=>273 | 318=>275 | 319=>276 | 320=>277 | 337=>296 | 338=>297 | n=>n,fun | 9=>9 | 3=>3 | 75=>26 | 76=>134 | 4=>4 | 5=>5 | 167=>344 | 37=>115 | 0=>0 | 85=>345 | 2=>2 | 168=>347 | 53=>330 | 175=>385 | 46=>245 | 210=>388 | 127=>214 | 145=>414 | 143=>412 | 21=>21 | 171=>353 | 173=>356 | 212=>396 | 51=>41 | 20=>20 | 213=>397 | 232=>425 | 233=>426 | 80=>124 | n=>n,fun | 15=>14 | 16=>15 | 17=>18 | 18=>19 | 19=>20 | n=>n⟩
theorem ar9:Go.Proofs.Lays.n172 prog ar8:=by constructor <;> first | kernel_rfl | (intro _;kernel_rfl) | (constructor <;> first | kernel_rfl | (intro _;kernel_rfl) | (constructor <;> first | kernel_rfl | (intro _;kernel_rfl)))
open Go.RowKit in
theorem strconv_Atoi(s:ByteArray)(n:Int)(hl:s.size<=18)(h:Lib.atoi s.data.toList=some n)(w:World):
  Calls prog 144 #[.string s] w fun e w'=>e=.returned (.tuple #[Z n,.nilIface])/\∃t,w'=Lib.bytesWorld w 5 t:=Any.strconv_Atoi ar9 s n hl h w
def asa:Go.Shelf.Ren:=⟨fun | 171=>145 | 243=>196 | 246=>233 | 283=>240 | 284=>241 | 285=>242 | 286=>243 | 129=>274 | 317=>273 | 318=>275 | 319=>276 | 320=>277 | 337=>296 | 338=>297 | n=>n,fun | 3=>3 | 9=>9 | 2=>2 | 4=>4 | 171=>353 | 0=>0 | 53=>330 | 37=>115 | 5=>5 | 173=>356 | 212=>396 | 51=>41 | 20=>20 | 213=>397 | 46=>245 | 232=>425 | 233=>426 | n=>n,fun | 17=>18 | 18=>19 | 19=>20 | n=>n⟩
theorem asb:Go.Proofs.LaysM.n171 prog asa:=by constructor <;> first | kernel_rfl | (intro _;kernel_rfl) | (constructor <;> first | kernel_rfl | (intro _;kernel_rfl) | (constructor <;> first | kernel_rfl | (intro _;kernel_rfl)))
open Go.RowKit Go.Sort Go.Lib in
theorem strconv_Itoa(n:Int)(h0:-9223372036854775808<=n)(h1:n<=9223372036854775807)(w:World)(htab:Lib.TabIs prog w "internal/strconv.uint64pow10" .u64 Lib.pow10Tab):
  Calls prog 145 #[Z n] w fun e w'=>e=.returned (.string ⟨(Lib.itoa n).toArray⟩)/\∃k os,w'=grow (w.drewN k) os:=Any.strconv_Itoa asb n h0 h1 w htab
def asc:Go.Shelf.Ren:=⟨fun | 172=>144 | 244=>194 | 245=>195 | 247=>228 | 279=>229 | 280=>230 | 281=>231 | 282=>232 | 287=>268 | 316=>169 | 171=>145 | 205=>269 | 321=>292 | 322=>293 | 243=>196 | 246=>233 | 283=>240 | 284=>241 | 285=>242 | 286=>243 | 129=>274 | 317=>273 | 318=>275 | 319=>276 | 320=>277 | 337=>296 | 338=>297 | n=>n,fun | 9=>9 | 3=>3 | 75=>26 | 76=>134 | 4=>4 | 5=>5 | 167=>344 | 37=>115 | 0=>0 | 85=>345 | 2=>2 | 168=>347 | 53=>330 | 175=>385 | 46=>245 | 210=>388 | 127=>214 | 145=>414 | 143=>412 | 21=>21 | 171=>353 | 173=>356 | 212=>396 | 51=>41 | 20=>20 | 213=>397 | 232=>425 | 233=>426 | 80=>124 | n=>n,fun | 15=>14 | 16=>15 | 17=>18 | 18=>19 | 19=>20 | n=>n⟩
theorem ase:Go.Proofs.LaysC.n172 prog asc:=by constructor <;> first | kernel_rfl | (intro _;kernel_rfl) | (constructor <;> first | kernel_rfl | (intro _;kernel_rfl) | (constructor <;> first | kernel_rfl | (intro _;kernel_rfl)))
open Go.RowKit in
theorem strconv_Atoi_err(s:ByteArray)(hl:s.size<=18)(h:Lib.atoi s.data.toList=none)(ev:Value)(w:World)(hv:w.cell? (O 14 0)=some ev)(hev:ev=.nilIface\/∃te pe,ev=.iface te pe):
  Calls prog 144 #[.string s] w fun e w'=>∃N,e=.returned (.tuple #[Z 0,.iface 347 (Rw N)])/\w.heap.size<=N/\w'.heap[N]?=some (.cells #[.string ⟨#[65,116,111,105]⟩,.string s,ev] 388 (0,0))/\U w w':=Any.strconv_Atoi_err ase s hl h ev w hv hev
def asf:Go.Shelf.Ren:=⟨fun | 143=>199 | 219=>193 | 217=>200 | 225=>225 | 224=>226 | 267=>227 | 266=>235 | 314=>267 | n=>n,fun | 9=>9 | 3=>3 | 4=>4 | 5=>5 | 46=>245 | 146=>383 | 51=>41 | n=>n,fun | 1=>13 | n=>n⟩
theorem asg:Go.Proofs.Lays.n143 prog asf:=by constructor <;> first | kernel_rfl | (intro _;kernel_rfl) | (constructor <;> first | kernel_rfl | (intro _;kernel_rfl) | (constructor <;> first | kernel_rfl | (intro _;kernel_rfl)))
open Go.RowKit Go.Lib in
theorem strings_Index_one(s:ByteArray)(c:UInt8)(w:World):
  Calls prog 199 #[.string s,.string ⟨#[c]⟩] w fun e w'=>e=.returned (Z (Lib.indexByte s.data.toList c))/\w'=w:=Any.strings_Index_one asg s c w
def ash:Go.Shelf.Ren:=⟨fun | 145=>81 | 220=>143 | 219=>193 | 217=>200 | 225=>225 | 224=>226 | 267=>227 | 266=>235 | 314=>267 | n=>n,fun | 9=>9 | 4=>4 | 59=>160 | 3=>3 | 5=>5 | 46=>245 | 146=>383 | 51=>41 | n=>n,fun | 1=>13 | n=>n⟩
theorem asi:Go.Proofs.Lays.n145 prog ash:=by constructor <;> first | kernel_rfl | (intro _;kernel_rfl) | (constructor <;> first | kernel_rfl | (intro _;kernel_rfl) | (constructor <;> first | kernel_rfl | (intro _;kernel_rfl)))
open Go.RowKit Go.Lib in
theorem strings_Cut(s sep:ByteArray)(m:Int)(w:World)(hs:s.size<4294967281)(hm:w.cell? (O 13 0)=some (Z m)):
  Calls prog 81 #[.string s,.string sep] w fun e w'=>e=.returned (.tuple #[.string ⟨(Lib.cut s.data.toList sep.data.toList).1.toArray⟩,.string ⟨(Lib.cut s.data.toList sep.data.toList).2.1.toArray⟩,.bool (Lib.cut s.data.toList sep.data.toList).2.2])/\∃n,w'=w.drewN n:=Any.strings_Cut asi s sep m w hs hm
end Go.Proofs.YtjolccidheflpaaGreatDoor
namespace Go.Proofs.YtjolccidheflpaaGreatDoor
open Go.Proofs.Tryz
set_option maxHeartbeats 8000000
set_option maxRecDepth 100000
open Go.RowKit Go.Shelf
structure ik (w:World):Prop where
 num:Bi w
 mx:∃m,w.cell? (O 13 0)=some (Z m)
theorem ik.later{w W:World}(h:ik w)(k:U w W):ik W :=
 ⟨h.num.later k,h.mx.imp fun m hm=>by rw[k.cell (bCq _ _ hm)];exact hm⟩
theorem arE{w:World}{te:TypeId}{pe:Value}{m:Int}(acp:w.cell? (O 14 0)=some (.iface te pe))(hmx:w.cell? (O 13 0)=some (Z m))(ht:Lib.TabBelow prog w.heap.size w "internal/strconv.uint64pow10" .u64 Lib.pow10Tab):ik w:=by
 refine⟨⟨fun s n W hW hs ha=>?_,fun s W hW hs ha=>?_,fun n W hW h0 h1=>?_⟩,m,hmx⟩
 .refine(strconv_Atoi s n hs ha W).mono ?_
  rintro e w' ⟨rfl,t,rfl⟩;exact⟨rfl,Lib.bytesWorld_below W 5 t⟩
 .refine(strconv_Atoi_err s hs ha (.iface te pe) W (by rw[hW.cell (bCq _ _ acp)];exact acp) (.inr ⟨te,pe,rfl⟩)).mono ?_
  rintro e w' ⟨N,rfl,_,_,hb⟩;exact⟨⟨_,_,_,rfl⟩,hb⟩
 .refine(strconv_Itoa n h0 h1 W (ht W hW)).mono ?_
  rintro e w' ⟨rfl,k,os,rfl⟩;exact⟨rfl,Lib.below_grow _ W (E _) k os⟩
theorem Pn(s:ByteArray)(c:UInt8)(w:World)(h:ik w)(hs:s.size<=1000000000):
  Calls prog 81 #[.string s,.string ⟨#[c]⟩] w fun e w'=>e=.returned (.tuple #[.string (aZ (Lib.cut s.data.toList [c]).1),.string (aZ (Lib.cut s.data.toList [c]).2.1),.bool (Lib.cut s.data.toList [c]).2.2])/\U w w':=by
 obtain⟨m,hm⟩:=h.mx;refine(strings_Cut s ⟨#[c]⟩ m w (by omega) hm).mono ?_;rintro e w' ⟨rfl,n,rfl⟩;exact⟨rfl,⟨rfl,rfl,rfl,E _,fun _ _=>rfl⟩⟩
end Go.Proofs.YtjolccidheflpaaGreatDoor
