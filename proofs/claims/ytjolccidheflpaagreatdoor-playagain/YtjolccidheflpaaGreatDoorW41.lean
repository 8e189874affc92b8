/- recover.bytesOf, by its contract. -/
import Derived.Test.YtjolccidheflpaaGreatDoorW14
import Derived.Test.YtjolccidheflpaaGreatDoorW16
import Derived.Test.YtjolccidheflpaaGreatDoorW10
import Derived.Test.YtjolccidheflpaaGreatDoorW13
namespace Go.Proofs.YtjolccidheflpaaGreatDoor
set_option maxHeartbeats 8000000
set_option maxRecDepth 100000
open Go.RowKit
theorem amh:∀ a b:Fin 16,bits .or .i64 ((a.val:Int)*16) (b.val:Int)%256=((a.val*16+b.val:Nat):Int):=by decide +kernel
theorem ami (l:List UInt8):strOfNums (ints l)=bn l:=by
 unfold strOfNums ints bn;rw[List.map_map,show ((fun n:Int=>UInt8.ofNat n.toNat) ∘ fun b:UInt8=>(b.toNat:Int))=id by funext b;simp,List.map_id]
theorem amj (s:ByteArray) (w:World) (hs:s.size<=1000000) :
  Calls Tryz.prog 85 #[.string s] w fun e w'=>e=.returned (.tuple #[.string (bn ((unhex s.data.toList).getD [])),.bool (unhex s.data.toList).isSome])/\Qd w w':=by
 by_cases h2:s.size%2=1
 .have h2':(Int.tmod (s.size:Int) 2 != 0)=true:=by rw[Int.tmod_eq_emod_of_nonneg (by omega)];simp;omega
  rw[Zz _ (by rw[Array.length_toList];exact h2)];go_enter Tryz.func85,Tryz.ntmps85;go_wp2;go_ret2;exact⟨rfl,bRq _ _⟩
 .have h2':(Int.tmod (s.size:Int) 2 != 0)=false:=by rw[Int.tmod_eq_emod_of_nonneg (by omega)];simp;omega
  obtain⟨n,hn⟩:∃ n:Nat,s.size=2*n:=⟨s.size/2,by omega⟩;have hq:Int.tdiv (s.size:Int) 2=(n:Int):=by rw[Int.tdiv_eq_ediv_of_nonneg (by omega)];omega
  obtain⟨i5,hi,hz0,hz1,hz2⟩:=info5;obtain⟨M,hM⟩:∃ M,M=madeCells (Value.int .u8 0).cells ((n:Int).toNat*i5.size):=⟨_,rfl⟩;have yc:M.size=n:=by rw[hM,size_madeCells,hz1];simp
  have aP:∀ W:World,(Instr.makeSlice 115 (Qa 0) (Qa (n:Int))).run Tryz.prog W=.ok (.slice (some (Qb W.heap.size 0)) 0 n) (W.alloc (.cells M 5)):=fun W=>by
   have h:=run_make (P:=Tryz.prog) W 115 5 i5 (.int .u8 0) Tryz.underlying115 hi hz0 .i64 .i64 (0:Int) (n:Int) (by omega) (by omega) (by rw[hz2];omega) (by omega);rw[<- hM]at h;simpa using h
  have fy:Hid (Row (w.alloc (.cells M 5)) w.heap.size (.slice (some (Qb w.heap.size 0)) 0 n) []):=World.ownsRow_made w M n (lRq _) (by unfold maxLen;omega) (by omega);have bD:Hid (Qd w (w.alloc (.cells M 5))):=(bRq _ _).alloc (lRq _) _;clear hM hi hz0 hz1 hz2 yc;go_enter Tryz.func85,Tryz.ntmps85
  go_wp2_with fail
  generalize w.alloc (.cells M 5)=w0 at *
  go_loopw [4,5] (fun v kv wr=>∃ (k:Nat) (pre:List UInt8),k<=s.size/\kv=Qa k/\k=2*pre.length/\unhex s.data.toList=(unhex (s.data.toList.drop k)).map (pre++·)/\Row wr w.heap.size v (ints pre)/\Qd w wr) (fun _ kv _=>s.size-(intOf kv).toNat)
  case atStart=>exact⟨0,[],Nat.zero_le _,rfl,rfl,by simp,fy.out,bD.out⟩
  case round =>
   obtain⟨k,pre,hk,rfl,ZA,hu,hr,hb⟩:=hrel;have HU:=hDq hu;have HR:=hDq hr;have HB:=hDq hb;have PG:=hDq ZA;clear hu hr hb ZA fy bD aP;by_cases hlt:k<s.size
   .have yJ:k+1<s.size:=by have:=PG.out;omega
    have aX:(k:Int)<s.size:=by omega
    have apE:(k:Int)+1<s.size:=by omega
    have hl0:k<s.data.toList.length:=by rw[Array.length_toList];exact hlt
    have hl1:k+1<s.data.toList.length:=by rw[Array.length_toList];exact yJ
    obtain⟨a,ha⟩:∃ a,s.data.toList[k]?=some a:=⟨_,List.getElem?_eq_getElem hl0⟩;obtain⟨b,hb⟩:∃ b,s.data.toList[k+1]?=some b:=⟨_,List.getElem?_eq_getElem hl1⟩;have De:=kx s k hlt;have apF:=kx s (k+1) yJ;have LO:((k:Int)+1).toNat=k+1:=by omega
    have ea:aN s k=a.toNat:=by unfold aN;rw[gE,ha];rfl
    have eb:aN s (k+1)=b.toNat:=by unfold aN;rw[gE,hb];rfl
    have ZB:∀ W,Calls Tryz.prog 147 #[.string ⟨#[48,49,50,51,52,53,54,55,56,57,97,98,99,100,101,102]⟩,.int .u8 (aN s k:Nat)] W fun e w'=>e=.returned (Qa (kh a))/\w'=W:=fun W=>by
     have:=strings_IndexByte ⟨#[48,49,50,51,52,53,54,55,56,57,97,98,99,100,101,102]⟩ (aN s k:Nat) W
     rw[show ((aN s k:Nat):Int).toNat.toUInt8=a by rw[ea];simp]at this;exact this
    have hib:∀ W,Calls Tryz.prog 147 #[.string ⟨#[48,49,50,51,52,53,54,55,56,57,97,98,99,100,101,102]⟩,.int .u8 (aN s (k+1):Nat)] W fun e w'=>e=.returned (Qa (kh b))/\w'=W:=fun W=>by
     have:=strings_IndexByte ⟨#[48,49,50,51,52,53,54,55,56,57,97,98,99,100,101,102]⟩ (aN s (k+1):Nat) W
     rw[show ((aN s (k+1):Nat):Int).toNat.toUInt8=b by rw[eb];simp]at this;exact this
    have IL:=hDq (amk s.data.toList k a b ha hb);have hna:=ZC a;have hnb:=ZC b;have ZD:=hDq ZB;have Af:=hDq hib;clear ha hb ea eb hl0 hl1 ZB hib;generalize kh a=na at *;generalize kh b=nb at *;go_wp2
    go_quiet (first | (go_at_call 147;refine Calls.quiet_of_same (ZD.out _)) | (go_at_call 147;refine Calls.quiet_of_same (Af.out _)))
    have hbd:Qd wr (wr.drewN nq):=⟨rfl,rfl,rfl,lRq _,fun _ _=>rfl⟩;have bq:Hid (Row (wr.drewN nq) w.heap.size u4 (ints pre)):=hDq (World.ownsRow.kept (row:=none) HR.out ⟨rfl,rfl,rfl,lRq _,fun _ _ _=>rfl⟩ (Classical.em _));have HB2:=hDq (HB.out.trans (hbd.mono HB.out.size));clear hbd ZD Af;generalize wr.drewN nq=w2 at *;by_cases h1:na<0
    .have HE:Hid (unhex s.data.toList=none):=hDq (by rw[HU.out,IL.out,if_pos (.inl h1)];rfl)
     go_wp2;go_ret2;rw[HE.out];exact⟨rfl,HB2.out⟩
    .by_cases h2:nb<0
     .have HE:Hid (unhex s.data.toList=none):=hDq (by rw[HU.out,IL.out,if_pos (.inr h2)];rfl)
      go_wp2;go_ret2;rw[HE.out];exact⟨rfl,HB2.out⟩
     .have HE:Hid (unhex s.data.toList=(unhex (s.data.toList.drop (k+2))).map ((pre++[UInt8.ofNat (na.toNat*16+nb.toNat)])++·)):=hDq (by
       rw[HU.out,IL.out,if_neg (by omega),Option.map_map];congr 1;funext x;simp)
      obtain⟨x,rfl⟩:∃ x:Nat,na=x:=⟨na.toNat,by omega⟩;obtain⟨y,rfl⟩:∃ y:Nat,nb=y:=⟨nb.toNat,by omega⟩;have j7:bits .or .i64 ((x:Int)*16) (y:Int)%256=((x*16+y:Nat):Int):=amh ⟨x,by omega⟩ ⟨y,by omega⟩;obtain⟨v4,w4,hap,hr4,hg4⟩:=Df w.heap.size w2 u4 (ints pre) [((x*16+y:Nat):Int)] bq.out (by rw[iT];have:=PG.out;omega) (by simp) HB2.out.size;have bJ:Hid (Qd w w4):=hDq (below_grown (HB2.out.alloc HB2.out.size _) (World.ownsRow.alloc bq.out _) (lTq HB2.out.size (by simp)) hg4);have bR:Hid (Row w4 w.heap.size v4 (ints (pre++[UInt8.ofNat (x*16+y)]))):=hDq (by
       have e:ints (pre++[UInt8.ofNat (x*16+y)])=ints pre++[((x*16+y:Nat):Int)]:=by
        rw[Od];congr 1;show [((UInt8.ofNat (x*16+y)).toNat:Int)]=_;rw[UInt8.toNat_ofNat',Nat.mod_eq_of_lt (by omega)]
       rw[e];exact hr4)
      simp only[List.map_cons,List.map_nil,List.length_cons,List.length_nil]at hap;rw[<- j7]at hap;have dJ:=hDq hap;have hlen:k+2<=s.size:=by omega
      clear hap hr4 hg4 j7 HU IL HR HB hn
      go_wp2_with (at_builtin;refine wpList_append_run rfl _ _ 115 rfl _ _ _ rfl rfl dJ.out ?_)
      go_roundw
      case rel=>exact⟨k+2,pre++[UInt8.ofNat (x*16+y)],hlen,by go_num,by rw[lAq,PG.out];simp;omega,by have:=HE.out;simpa using this,bR.out,bJ.out⟩
      case measure=>simp[intOf];omega
   .have aX:¬ (k:Int)<s.size:=by omega
    obtain rfl:k=s.size:=by omega
    have hcv:=D8 HR.out;have HE:Hid (unhex s.data.toList=some pre):=by
     have:=HU.out
     rw[List.drop_of_length_le (by rw[Array.length_toList];exact lRq _)]at this;exact hDq (by simpa [unhex] using this)
    go_wp2;go_ret2;refine⟨?_,HB.out⟩;rw[HE.out];show Ending.returned (.tuple #[.string (strOfNums (ints pre)),.bool true])=.returned (.tuple #[.string (bn pre),.bool true]);rw[ami]
end Go.Proofs.YtjolccidheflpaaGreatDoor
