/- Two frames at once: a login and an order; as plain facts. -/
import Derived.Test.YtidahfhingdlmaaGreatDoorU37
import Derived.Test.YtidahfhingdlmaaGreatDoorU23
namespace Go.Proofs.YtidahfhingdlmaaGreatDoor
set_option maxRecDepth 100000
namespace Ve
theorem frame_back {a:Ask} (h:Se.ac a = 0):decCode (frameOf a) = 0∧askOf (frameOf a) = a∧(frameOf a).size = 30:=by
 obtain ⟨k,c,sq,it,sd,pr,q,id⟩:=a
 have hf:frameOf ⟨k,c,sq,it,sd,pr,q,id⟩ = strOfNums (Wi.frame k c sq it sd pr q id):=by
  unfold frameOf encText;exact if_pos h
 rw [hf]
 have h':Wi.code k c sq it sd pr q id = 0:=h
 obtain ⟨h1,_⟩:=dec_frame h'
 obtain ⟨e0,e1,e2,e3,e4,e5,e6,e7⟩:=fields_frame h'
 refine ⟨h1,?_,by rw [strOfNums_size,Wi.frame_length]⟩
 unfold askOf df
 rw [if_pos h1,if_pos h1,if_pos h1,if_pos h1,if_pos h1,if_pos h1,if_pos h1,if_pos h1,e0,e1,e2,e3,e4,e5,e6,e7]
theorem fr_two0 {a b:ByteArray} (ha:a.size = 30):fr (a++b) 0 = a:=by
 unfold fr
 have:=ByteArray.extract_append_eq_left (a:=a) (b:=b) (i:=30 * 0 + 30) (by omega)
 simpa using this
theorem fr_two1 {a b:ByteArray} (ha:a.size = 30) (hb:b.size = 30):fr (a++b) 1 = b:=by
 unfold fr
 have:=ByteArray.extract_append_eq_right (a:=a) (b:=b) (i:=30 * 1) (j:=30 * 1 + 30) (by omega) (by omega)
 simpa using this
theorem rest_two {a b:ByteArray} (ha:a.size = 30) (hb:b.size = 30):restB (a++b) = ⟨#[]⟩:=by
 have hs:(restB (a++b)).size = 0:=by
  unfold restB
  rw [ByteArray.size_extract,ByteArray.size_append];omega
 generalize restB (a++b) = r at *
 obtain ⟨d⟩:=r
 have:d = #[]:=Array.size_eq_zero_iff.1 hs
 rw [this]
def login (c:Nat):Ask:=⟨108,c,1,0,0,0,0,0⟩
theorem login_ok {c:Nat} (hc:c < 6):Se.ac (login c) = 0:=by
 have:c = 0∨c = 1∨c = 2∨c = 3∨c = 4∨c = 5:=by omega
 rcases this with rfl | rfl | rfl | rfl | rfl | rfl <;> decide
def twoS (S:St) (c:Nat) (a:Ask):St:={ S with on:=upd S.on c true,nx:=upd S.nx c 3,la:=upd S.la c S.now,lf:=upd S.lf c ⟨#[]⟩,Q:=upd S.Q c (S.Q c++[a]) }
theorem two_feed {S:St} {c:Nat} (hc:c < 6) (a:Ask) (ha:Se.ac a = 0) (hk:a.k = 111) (hcc:a.c = c) (hsq:a.sq = 2) (hd:S.down = false) (hon:S.on c = false) (hlf:S.lf c = ⟨#[]⟩) (hq:(S.Q c).length < 6) :
  feedR S c (frameOf (login c)++frameOf a) = [⟨c,kAcc,a.id,0,0,0⟩]∧feedS S c (frameOf (login c)++frameOf a) = twoS S c a:=by
 obtain ⟨l1,l2,l3⟩:=frame_back (login_ok hc)
 obtain ⟨a1,a2,a3⟩:=frame_back ha
 have hw:¬ (S.down = true∨Wi.withinB (c:Int) 0 5 = false):=by
  have:Wi.withinB (c:Int) 0 5 = true:=by unfold Wi.withinB;simp;omega
  rw [hd,this];simp
 have htn:((c:Int)).toNat = c:=by omega
 have hb:S.lf c++(frameOf (login c)++frameOf a) = frameOf (login c)++frameOf a:=by rw [hlf];exact ByteArray.empty_append
 have h60:(frameOf (login c)++frameOf a).size / 30 = 2:=by rw [ByteArray.size_append,l3,a3]
 have f0:=fr_two0 (b:=frameOf a) l3
 have f1:=fr_two1 l3 a3
 have f2:=rest_two l3 a3
 have hF:fedS S c (frameOf (login c)++frameOf a) = { S with lf:=upd S.lf c ⟨#[]⟩ }:=by unfold fedS;rw [f2]
 have t0:Se.tc (S.on c) (S.nx c) (login c) = 0:=by
  unfold Se.tc
  rw [if_pos (login_ok hc),hon]
  rfl
 have n1:¬ isO (login c) = true:=by show ¬ ((108:Int) == 111 || (108:Int) == 99) = true;decide
 have n2:¬ (login c).k = 113:=by show ¬ (108:Int) = 113;decide
 have t1:takeC { S with lf:=upd S.lf c ⟨#[]⟩ } c (login c) = 0:=by
  unfold takeC
  rw [if_pos (show (login c).c = (c:Int) from rfl)]
  exact t0
 have e1:hearS { S with lf:=upd S.lf c ⟨#[]⟩ } c (frameOf (login c)) = { S with on:=upd S.on c true,nx:=upd S.nx c 2,la:=upd S.la c S.now,lf:=upd S.lf c ⟨#[]⟩ }:=by
  unfold hearS
  rw [if_pos l1,l2,if_pos t1,if_neg n1,if_neg n2]
  unfold taken
  have ht:=t0
  unfold Se.tO Se.tN Se.tL
  simp only [ht,if_true]
  rfl
 have e2:hearR { S with lf:=upd S.lf c ⟨#[]⟩ } c (frameOf (login c)) = []:=by
  unfold hearR
  rw [if_pos l1,l2,if_pos t1,if_neg n1]
 generalize hS1:({ S with on:=upd S.on c true,nx:=upd S.nx c 2,la:=upd S.la c S.now,lf:=upd S.lf c ⟨#[]⟩ }:St) = S1 at *
 have o1:S1.on c = true:=by rw [← hS1];simp [upd]
 have o2:S1.nx c = 2:=by rw [← hS1];simp [upd]
 have o3:S1.Q = S.Q:=by rw [← hS1]
 have t2:Se.tc (S1.on c) (S1.nx c) a = 0:=by
  unfold Se.tc
  rw [if_pos ha,o1,o2,hk,hsq]
  rfl
 have t3:takeC S1 c a = 0:=by unfold takeC;rw [if_pos hcc,t2]
 have hO:isO a = true:=by unfold isO;rw [hk];rfl
 have hpc:Ik.putC S1.Q a = 0:=by
  have k1:Ik.isK a = true:=by unfold Ik.isK;rw [hk];rfl
  have k2:Ik.isC a.c = true:=by unfold Ik.isC;rw [hcc];simp;omega
  unfold Ik.putC
  rw [if_pos k1,if_pos k2,hcc,htn,o3,if_neg (by omega)]
 have hpl:Ik.putL S1.Q a = upd S.Q c (S.Q c++[a]):=by unfold Ik.putL;rw [if_pos hpc,hcc,htn,o3];rfl
 have e3:hearR S1 c (frameOf a) = [⟨c,kAcc,a.id,0,0,0⟩]:=by
  unfold hearR
  rw [if_pos a1,a2,if_pos t3,if_pos hO]
  unfold putK
  rw [if_pos hpc]
 have e4:hearS S1 c (frameOf a) = twoS S c a:=by
  unfold hearS
  rw [if_pos a1,a2,if_pos t3,if_pos hO,hpl]
  unfold taken Se.tO Se.tN Se.tL twoS
  simp only [t2,if_true,hk,hsq]
  rw [← hS1]
  simp only [upd_upd]
  rfl
 refine ⟨?_,?_⟩
 ·unfold feedR
  rw [if_neg hw,htn,hb,h60,hF]
  unfold hearsR hearsR hearsR hearsS hearsS
  rw [f0,f1,e1,e2,e3]
  rfl
 ·unfold feedS
  rw [if_neg hw,htn,hb,h60,hF]
  unfold hearsS hearsS hearsS
  rw [f0,f1,e1,e4]
end Ve
end Go.Proofs.YtidahfhingdlmaaGreatDoor
