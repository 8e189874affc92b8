/- recover.bytesOf, by its contract. -/
import Derived.Test.YtjolccidheflpaaGreatDoorX13
import Derived.Test.YtjolccidheflpaaGreatDoorX16
namespace Go.Proofs.YtjolccidheflpaaGreatDoor
open Go.Proofs.Tryz
set_option maxHeartbeats 8000000
set_option maxRecDepth 100000
open Go.RowKit
theorem aq7:∀a b:Fin 16,bits .or .i64 ((a.val:Int)*16) (b.val:Int)%256=((a.val*16+b.val:Nat):Int):=by decide +kernel
theorem aq8(l:List UInt8):strOfNums (ints l)=aZ l:=by unfold strOfNums ints aZ;rw[List.map_map,show ((fun n:Int=>UInt8.ofNat n.toNat) ∘ fun b:UInt8=>(b.toNat:Int))=id by funext b;simp,List.map_id]
theorem aq9(s:ByteArray)(w:World)(hs:s.size<=1000000):
  Calls prog 85 #[.string s] w fun e w'=>e=.returned (.tuple #[.string (aZ ((unhex s.data.toList).getD [])),.bool (unhex s.data.toList).isSome])/\U w w':=by
 by_cases h2:s.size%2=1
 .have h2':(Int.tmod (s.size:Int) 2 != 0)=true:=by rw[Int.tmod_eq_emod_of_nonneg (by omega)];simp;omega
  rw[abT _ (by rw[Array.length_toList];exact h2)];go_enter func85,ntmps85;go_wp2;go_ret2;exact⟨rfl,bRq _ _⟩
 .have h2':(Int.tmod (s.size:Int) 2 != 0)=false:=by rw[Int.tmod_eq_emod_of_nonneg (by omega)];simp;omega
  obtain⟨n,hn⟩:∃n:Nat,s.size=2*n:=⟨s.size/2,by omega⟩;have hq:Int.tdiv (s.size:Int) 2=(n:Int):=by rw[Int.tdiv_eq_ediv_of_nonneg (by omega)];omega
  obtain⟨i5,hi,hz0,hz1,hz2⟩:=info5;obtain⟨M,hM⟩:∃M,M=madeCells (Value.int .u8 0).cells ((n:Int).toNat*i5.size):=⟨_,rfl⟩;have nB:M.size=n:=by rw[hM,size_madeCells,hz1];simp
  have ay:∀W:World,(Instr.makeSlice 115 (Z 0) (Z (n:Int))).run prog W=.ok (.slice (some (O W.heap.size 0)) 0 n) (W.alloc (.cells M 5)):=fun W=>by
   have h:=run_make (P:=prog) W 115 5 i5 (.int .u8 0) underlying115 hi hz0 .i64 .i64 (0:Int) (n:Int) (by omega) (by omega) (by rw[hz2];omega) (by omega);rw[<- hM]at h;simpa using h
  have gi:Hid (Row (w.alloc (.cells M 5)) w.heap.size (.slice (some (O w.heap.size 0)) 0 n) []):=World.ownsRow_made w M n (E _) (by unfold maxLen;omega) (by omega);have cG:Hid (U w (w.alloc (.cells M 5))):=aj;clear hM hi hz0 hz1 hz2 nB;go_enter func85,ntmps85
  go_wp2_with fail
  generalize w.alloc (.cells M 5)=w0 at *
  go_loopw [4,5] (fun v kv wr=>∃(k:Nat) (pre:List UInt8),k<=s.size/\kv=Z k/\k=2*pre.length/\unhex s.data.toList=(unhex (s.data.toList.drop k)).map (pre++·)/\Row wr w.heap.size v (ints pre)/\U w wr) (fun _ kv _=>s.size-(intOf kv).toNat)
  case atStart=>exact⟨0,[],Nat.zero_le _,rfl,rfl,by simp,gi,cG⟩
  case round =>
   obtain⟨k,pre,hk,rfl,AZ,hu,hr,hb⟩:=hrel;have HU:=Y hu;have HR:=Y hr;have HB:=Y hb;have Q9:=Y AZ;clear hu hr hb AZ ay;by_cases hlt:k<s.size
   .have Gd:k+1<s.size:=by have:=Q9.out;omega
    have aT:(k:Int)<s.size:=by omega
    have auJ:(k:Int)+1<s.size:=by omega
    have hl0:k<s.data.toList.length:=by rw[Array.length_toList];exact hlt
    have hl1:k+1<s.data.toList.length:=by rw[Array.length_toList];exact Gd
    obtain⟨a,ha⟩:∃a,s.data.toList[k]?=some a:=⟨_,List.getElem?_eq_getElem hl0⟩;obtain⟨b,hb⟩:∃b,s.data.toList[k+1]?=some b:=⟨_,List.getElem?_eq_getElem hl1⟩;have apH:=lu s k hlt;have auK:=lu s (k+1) Gd;have MV:((k:Int)+1).toNat=k+1:=by omega
    have ea:aS s k=a.toNat:=by unfold aS;rw[gE,ha];rfl
    have eb:aS s (k+1)=b.toNat:=by unfold aS;rw[gE,hb];rfl
    have abU:∀W,Calls prog 147 #[.string ⟨#[48,49,50,51,52,53,54,55,56,57,97,98,99,100,101,102]⟩,.int .u8 (aS s k:Nat)] W fun e w'=>e=.returned (Z (lh a))/\w'=W:=fun W=>by
     have:=strings_IndexByte ⟨#[48,49,50,51,52,53,54,55,56,57,97,98,99,100,101,102]⟩ (aS s k:Nat) W
     rw[show ((aS s k:Nat):Int).toNat.toUInt8=a by rw[ea];simp]at this;exact this
    have hib:∀W,Calls prog 147 #[.string ⟨#[48,49,50,51,52,53,54,55,56,57,97,98,99,100,101,102]⟩,.int .u8 (aS s (k+1):Nat)] W fun e w'=>e=.returned (Z (lh b))/\w'=W:=fun W=>by
     have:=strings_IndexByte ⟨#[48,49,50,51,52,53,54,55,56,57,97,98,99,100,101,102]⟩ (aS s (k+1):Nat) W
     rw[show ((aS s (k+1):Nat):Int).toNat.toUInt8=b by rw[eb];simp]at this;exact this
    have Q_:=Y (ara s.data.toList k a b ha hb);have hna:=abV a;have hnb:=abV b;have IC:=Y abU;have J2:=Y hib;clear ha hb ea eb hl0 hl1 abU hib;generalize lh a=na at *;generalize lh b=nb at *;go_wp2
    go_quiet (first | (go_at_call 147;refine Calls.quiet_of_same (IC _)) | (go_at_call 147;refine Calls.quiet_of_same (J2 _)))
    have hbd:U wr (wr.drewN nq):=⟨rfl,rfl,rfl,E _,fun _ _=>rfl⟩;have b_:Hid (Row (wr.drewN nq) w.heap.size u4 (ints pre)):=Y (World.ownsRow.kept (row:=none) HR ⟨rfl,rfl,rfl,E _,fun _ _ _=>rfl⟩ (Classical.em _));have HB2:=Y (ar HB hbd);clear hbd;generalize wr.drewN nq=w2 at *;by_cases h1:na<0
    .have HE:Hid (unhex s.data.toList=none):=Y (by rw[HU.out,Q_.out,if_pos (.inl h1)];rfl)
     go_wp2;go_ret2;rw[HE.out];exact⟨rfl,HB2⟩
    .by_cases h2:nb<0
     .have HE:Hid (unhex s.data.toList=none):=Y (by rw[HU.out,Q_.out,if_pos (.inr h2)];rfl)
      go_wp2;go_ret2;rw[HE.out];exact⟨rfl,HB2⟩
     .have HE:Hid (unhex s.data.toList=(unhex (s.data.toList.drop (k+2))).map ((pre++[UInt8.ofNat (na.toNat*16+nb.toNat)])++·)):=Y (by
       rw[HU.out,Q_.out,if_neg (by omega),Option.map_map];congr 1;funext x;simp)
      obtain⟨x,rfl⟩:∃x:Nat,na=x:=⟨na.toNat,by omega⟩;obtain⟨y,rfl⟩:∃y:Nat,nb=y:=⟨nb.toNat,by omega⟩;have kV:bits .or .i64 ((x:Int)*16) (y:Int)%256=((x*16+y:Nat):Int):=aq7 ⟨x,by omega⟩ ⟨y,by omega⟩;obtain⟨v4,w4,hap,hr4,hg4⟩:=EP w.heap.size w2 u4 (ints pre) [((x*16+y:Nat):Int)] b_ (by rw[jH];have:=Q9.out;omega) (by simp) HB2.size;have bS:Hid (U w w4):=Y (below_grown (HB2.alloc HB2.size _) (World.ownsRow.alloc b_ _) (lTq HB2.size (by simp)) hg4);have cO:Hid (Row w4 w.heap.size v4 (ints (pre++[UInt8.ofNat (x*16+y)]))):=Y (by
       have e:ints (pre++[UInt8.ofNat (x*16+y)])=ints pre++[((x*16+y:Nat):Int)]:=by rw[PY];congr 1;show [((UInt8.ofNat (x*16+y)).toNat:Int)]=_;rw[UInt8.toNat_ofNat',Nat.mod_eq_of_lt (by omega)]
       rw[e];exact hr4)
      simp only[List.map_cons,List.map_nil,List.length_cons,List.length_nil]at hap;rw[<- kV]at hap;have cW:=Y hap;have hlen:k+2<=s.size:=by omega
      clear hap hr4 hg4 kV hn
      go_wp2_with (at_builtin;refine wpList_append_run rfl _ _ 115 rfl _ _ _ rfl rfl cW ?_)
      go_roundw
      case rel=>exact⟨k+2,pre++[UInt8.ofNat (x*16+y)],hlen,by go_num,by rw[lAq,Q9.out];simp;omega,by have:=HE.out;simpa using this,cO,bS⟩
      case measure=>simp[intOf];omega
   .have aT:¬ (k:Int)<s.size:=by omega
    obtain rfl:k=s.size:=by omega
    have hcv:=FE HR;have HE:Hid (unhex s.data.toList=some pre):=by
     have:=HU.out
     rw[List.drop_of_length_le (by rw[Array.length_toList];exact E _)]at this;exact Y (by simpa [unhex] using this)
    go_wp2;go_ret2;refine⟨?_,HB⟩;rw[HE.out];show Ending.returned (.tuple #[.string (strOfNums (ints pre)),.bool true])=.returned (.tuple #[.string (aZ pre),.bool true]);rw[aq8]
end Go.Proofs.YtjolccidheflpaaGreatDoor
