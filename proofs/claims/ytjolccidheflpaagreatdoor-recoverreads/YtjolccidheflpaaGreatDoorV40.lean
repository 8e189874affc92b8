/- recover.bytesOf, by its contract. -/
import Derived.Test.YtjolccidheflpaaGreatDoorV14
import Derived.Test.YtjolccidheflpaaGreatDoorV16
import Derived.Test.YtjolccidheflpaaGreatDoorV10
import Derived.Test.YtjolccidheflpaaGreatDoorV13
namespace Go.Proofs.YtjolccidheflpaaGreatDoor
set_option maxHeartbeats 8000000
open Go.RowKit
set_option maxRecDepth 100000
theorem alB:∀ a b:Fin 16,bits .or .i64 ((a.val:Int)*16) (b.val:Int)%256=((a.val*16+b.val:Nat):Int):=by decide +kernel
theorem alC (l:List UInt8):strOfNums (ints l)=ai l:=by
 unfold strOfNums ints ai;rw[List.map_map,show ((fun n:Int=>UInt8.ofNat n.toNat) ∘ fun b:UInt8=>(b.toNat:Int))=id by funext b;simp,List.map_id]
theorem alD (s:ByteArray) (w:World) (hs:s.size<=1000000) :
  Calls Tryz.prog 85 #[.string s] w fun e w'=>e=.returned (.tuple #[.string (ai ((unhex s.data.toList).getD [])),.bool (unhex s.data.toList).isSome])∧Below w.heap.size w w':=by
 by_cases h2:s.size%2=1
 ·have h2':(Int.tmod (s.size:Int) 2 != 0)=true:=by rw[Int.tmod_eq_emod_of_nonneg (by omega)];simp;omega
  rw[Iw _ (by rw[Array.length_toList];exact h2)];go_enter Tryz.func85,Tryz.ntmps85;go_wp2;go_ret2;exact⟨rfl,bRq _ _⟩
 ·have h2':(Int.tmod (s.size:Int) 2 != 0)=false:=by rw[Int.tmod_eq_emod_of_nonneg (by omega)];simp;omega
  obtain⟨n,hn⟩:∃ n:Nat,s.size=2*n:=⟨s.size/2,by omega⟩;have hq:Int.tdiv (s.size:Int) 2=(n:Int):=by rw[Int.tdiv_eq_ediv_of_nonneg (by omega)];omega
  obtain⟨i5,hi,hz0,hz1,hz2⟩:=info5;obtain⟨M,hM⟩:∃ M,M=madeCells (Value.int .u8 0).cells ((n:Int).toNat*i5.size):=⟨_,rfl⟩;have D6:M.size=n:=by rw[hM,size_madeCells,hz1];simp
  have aW:∀ W:World,(Instr.makeSlice 115 (.int .i64 0) (.int .i64 (n:Int))).run Tryz.prog W=.ok (.slice (some ⟨W.heap.size,0,none⟩) 0 n) (W.alloc (.cells M 5)):=fun W=>by
   have h:=run_make (P:=Tryz.prog) W 115 5 i5 (.int .u8 0) Tryz.underlying115 hi hz0 .i64 .i64 (0:Int) (n:Int) (by omega) (by omega) (by rw[hz2];omega) (by omega);rw[<- hM]at h;simpa using h
  have f_:Hid (Row (w.alloc (.cells M 5)) w.heap.size (.slice (some ⟨w.heap.size,0,none⟩) 0 n) []):=World.ownsRow_made w M n (lRq _) (by unfold maxLen;omega) (by omega);have bD:Hid (Below w.heap.size w (w.alloc (.cells M 5))):=(bRq _ _).alloc (lRq _) _;clear hM hi hz0 hz1 hz2 D6;go_enter Tryz.func85,Tryz.ntmps85
  go_wp2_with fail
  generalize w.alloc (.cells M 5)=w0 at *
  go_loopw [4,5] (fun v kv wr=>∃ (k:Nat) (pre:List UInt8),k<=s.size∧kv=.int .i64 k∧k=2*pre.length∧unhex s.data.toList=(unhex (s.data.toList.drop k)).map (pre++·)∧Row wr w.heap.size v (ints pre)∧Below w.heap.size w wr) (fun _ kv _=>s.size-(intOf kv).toNat)
  case atStart=>exact⟨0,[],Nat.zero_le _,rfl,rfl,by simp,f_.out,bD.out⟩
  case round =>
   obtain⟨k,pre,hk,rfl,YN,hu,hr,hb⟩:=hrel;have HU:=hDq hu;have HR:=hDq hr;have HB:=hDq hb;have Pd:=hDq YN;clear hu hr hb YN f_ bD aW;by_cases hlt:k<s.size
   ·have FX:k+1<s.size:=by have:=Pd.out;omega
    have aK:(k:Int)<s.size:=by omega
    have ao1:(k:Int)+1<s.size:=by omega
    have hl0:k<s.data.toList.length:=by rw[Array.length_toList];exact hlt
    have hl1:k+1<s.data.toList.length:=by rw[Array.length_toList];exact FX
    obtain⟨a,ha⟩:∃ a,s.data.toList[k]?=some a:=⟨_,List.getElem?_eq_getElem hl0⟩;obtain⟨b,hb⟩:∃ b,s.data.toList[k+1]?=some b:=⟨_,List.getElem?_eq_getElem hl1⟩;have CR:=fW s k hlt;have ao2:=fW s (k+1) FX;have Mf:((k:Int)+1).toNat=k+1:=by omega
    have ea:az s k=a.toNat:=by unfold az;rw[gE,ha];rfl
    have eb:az s (k+1)=b.toNat:=by unfold az;rw[gE,hb];rfl
    have YO:∀ W,Calls Tryz.prog 147 #[.string ⟨#[48,49,50,51,52,53,54,55,56,57,97,98,99,100,101,102]⟩,.int .u8 (az s k:Nat)] W fun e w'=>e=.returned (.int .i64 (di a))∧w'=W:=fun W=>by
     have:=strings_IndexByte ⟨#[48,49,50,51,52,53,54,55,56,57,97,98,99,100,101,102]⟩ (az s k:Nat) W
     rw[show ((az s k:Nat):Int).toNat.toUInt8=a by rw[ea];simp]at this;exact this
    have hib:∀ W,Calls Tryz.prog 147 #[.string ⟨#[48,49,50,51,52,53,54,55,56,57,97,98,99,100,101,102]⟩,.int .u8 (az s (k+1):Nat)] W fun e w'=>e=.returned (.int .i64 (di b))∧w'=W:=fun W=>by
     have:=strings_IndexByte ⟨#[48,49,50,51,52,53,54,55,56,57,97,98,99,100,101,102]⟩ (az s (k+1):Nat) W
     rw[show ((az s (k+1):Nat):Int).toNat.toUInt8=b by rw[eb];simp]at this;exact this
    have oo:=hDq (Pe s.data.toList k a b ha hb);have hna:=uH a;have hnb:=uH b;have YP:=hDq YO;have Ak:=hDq hib;clear ha hb ea eb hl0 hl1 YO hib;generalize di a=na at *;generalize di b=nb at *;go_wp2
    go_quiet (first | (go_at_call 147;refine Calls.quiet_of_same (YP.out _)) | (go_at_call 147;refine Calls.quiet_of_same (Ak.out _)))
    have hbd:Below wr.heap.size wr (wr.drewN nq):=⟨rfl,rfl,rfl,lRq _,fun _ _=>rfl⟩;have aT:Hid (Row (wr.drewN nq) w.heap.size u4 (ints pre)):=hDq (World.ownsRow.kept (row:=none) HR.out ⟨rfl,rfl,rfl,lRq _,fun _ _ _=>rfl⟩ (Classical.em _));have HB2:=hDq (HB.out.trans (hbd.mono HB.out.size));clear hbd YP Ak;generalize wr.drewN nq=w2 at *;by_cases h1:na<0
    ·have HE:Hid (unhex s.data.toList=none):=hDq (by rw[HU.out,oo.out,if_pos (.inl h1)];rfl)
     go_wp2;go_ret2;rw[HE.out];exact⟨rfl,HB2.out⟩
    ·by_cases h2:nb<0
     ·have HE:Hid (unhex s.data.toList=none):=hDq (by rw[HU.out,oo.out,if_pos (.inr h2)];rfl)
      go_wp2;go_ret2;rw[HE.out];exact⟨rfl,HB2.out⟩
     ·have HE:Hid (unhex s.data.toList=(unhex (s.data.toList.drop (k+2))).map ((pre++[UInt8.ofNat (na.toNat*16+nb.toNat)])++·)):=hDq (by
       rw[HU.out,oo.out,if_neg (by omega),Option.map_map];congr 1;funext x;simp)
      obtain⟨x,rfl⟩:∃ x:Nat,na=x:=⟨na.toNat,by omega⟩;obtain⟨y,rfl⟩:∃ y:Nat,nb=y:=⟨nb.toNat,by omega⟩;have jH:bits .or .i64 ((x:Int)*16) (y:Int)%256=((x*16+y:Nat):Int):=alB ⟨x,by omega⟩ ⟨y,by omega⟩;obtain⟨v4,w4,hap,hr4,hg4⟩:=CS w.heap.size w2 u4 (ints pre) [((x*16+y:Nat):Int)] aT.out (by rw[iF];have:=Pd.out;omega) (by simp) HB2.out.size;have bg:Hid (Below w.heap.size w w4):=hDq (below_grown (HB2.out.alloc HB2.out.size _) (World.ownsRow.alloc aT.out _) (lTq HB2.out.size (by simp)) hg4);have bF:Hid (Row w4 w.heap.size v4 (ints (pre++[UInt8.ofNat (x*16+y)]))):=hDq (by
       have e:ints (pre++[UInt8.ofNat (x*16+y)])=ints pre++[((x*16+y:Nat):Int)]:=by
        rw[NW];congr 1;show [((UInt8.ofNat (x*16+y)).toNat:Int)]=_;rw[UInt8.toNat_ofNat',Nat.mod_eq_of_lt (by omega)]
       rw[e];exact hr4)
      simp only[List.map_cons,List.map_nil,List.length_cons,List.length_nil]at hap;rw[<- jH]at hap;have cO:=hDq hap;have hlen:k+2<=s.size:=by omega
      clear hap hr4 hg4 jH HU oo HR HB hn
      go_wp2_with (at_builtin;refine wpList_append_run rfl _ _ 115 rfl _ _ _ rfl rfl cO.out ?_)
      go_roundw
      case rel=>exact⟨k+2,pre++[UInt8.ofNat (x*16+y)],hlen,by go_num,by rw[lAq,Pd.out];simp;omega,by have:=HE.out;simpa using this,bF.out,bg.out⟩
      case measure=>simp[intOf];omega
   ·have aK:¬ (k:Int)<s.size:=by omega
    obtain rfl:k=s.size:=by omega
    have hcv:=Ea HR.out;have HE:Hid (unhex s.data.toList=some pre):=by
     have:=HU.out
     rw[List.drop_of_length_le (by rw[Array.length_toList];exact lRq _)]at this;exact hDq (by simpa [unhex] using this)
    go_wp2;go_ret2;refine⟨?_,HB.out⟩;rw[HE.out];show Ending.returned (.tuple #[.string (strOfNums (ints pre)),.bool true])=.returned (.tuple #[.string (ai pre),.bool true]);rw[alC]
end Go.Proofs.YtjolccidheflpaaGreatDoor
