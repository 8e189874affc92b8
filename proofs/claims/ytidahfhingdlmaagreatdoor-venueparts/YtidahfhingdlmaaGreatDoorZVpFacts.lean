/- Bytes that are fed in parts make what they make at once; as plain facts. -/
import Derived.Test.YtidahfhingdlmaaGreatDoorU37
namespace Go.Proofs.YtidahfhingdlmaaGreatDoor
set_option maxRecDepth 100000
namespace Ve
theorem ext_over (a:ByteArray) (i j:Nat) (h:a.size≤j):a.extract i j = a.extract i a.size:=by
 apply ByteArray.ext
 rw [ByteArray.data_extract,ByteArray.data_extract]
 have h':a.data.size≤j:=h
 apply Array.ext
 ·rw [Array.size_extract,Array.size_extract];show min j a.data.size - i = min a.data.size a.data.size - i;omega
 ·intro k h1 h2;rw [Array.getElem_extract,Array.getElem_extract]
theorem rest_append (b c:ByteArray) (i:Nat) (hi:i≤b.size):(b++c).extract i (b++c).size = b.extract i b.size++c:=by
 rw [ByteArray.extract_append,ByteArray.size_append,ext_over b i _ (by omega),show i - b.size = 0 by omega,show b.size + c.size - b.size = c.size by omega]
 simp
theorem head_append (b c:ByteArray):(b++c).extract 0 b.size = b:=ByteArray.extract_append_eq_left rfl
theorem fr_left (b c:ByteArray) (j:Nat) (h:30 * j + 30≤b.size):fr (b++c) j = fr b j:=by
 have h1:=fr_piece (b++c) 0 b.size j (by omega)
 rw [Nat.mul_zero,head_append,Nat.zero_add] at h1
 exact h1.symm
theorem fr_right (b c:ByteArray) (j:Nat) (h:30 * (b.size / 30) + (30 * j + 30)≤(b++c).size):fr (b++c) (b.size / 30 + j) = fr (restB b++c) j:=by
 have h1:=fr_piece (b++c) (b.size / 30) (b++c).size j h
 rw [rest_append b c _ (by omega)] at h1
 exact h1.symm
theorem rest_sz (b:ByteArray):(restB b).size = b.size - 30 * (b.size / 30):=by
 unfold restB;rw [ByteArray.size_extract];omega
theorem size_div (b c:ByteArray):(b++c).size / 30 = b.size / 30 + (restB b++c).size / 30:=by
 rw [ByteArray.size_append,ByteArray.size_append,rest_sz];omega
theorem restB_append (b c:ByteArray):restB (b++c) = restB (restB b++c):=by
 have h1:=rest_append b c (30 * (b.size / 30)) (by omega)
 have h2:restB b++c = (b++c).extract (30 * (b.size / 30)) (b++c).size:=h1.symm
 have h3:=size_div b c
 have h4:(restB b++c).size = (b++c).size - 30 * (b.size / 30):=by rw [ByteArray.size_append,ByteArray.size_append,rest_sz];omega
 show (b++c).extract (30 * ((b++c).size / 30)) (b++c).size = (restB b++c).extract (30 * ((restB b++c).size / 30)) (restB b++c).size
 generalize hk:(restB b++c).size / 30 = k2 at *
 rw [h4,h2,ByteArray.extract_extract,h3]
 have h5:30 * (b.size / 30)≤(b++c).size:=by rw [ByteArray.size_append];omega
 congr 1 <;> omega
theorem restB_small (b:ByteArray) (h:b.size < 30):restB b = b:=by
 unfold restB
 rw [show b.size / 30 = 0 by omega]
 simp
theorem hear_lf (S:St) (x:Nat→ByteArray) (n:Nat) (f:ByteArray):hearS { S with lf:=x } n f = { hearS S n f with lf:=x }:=by
 have e:takeC { S with lf:=x } n (askOf f) = takeC S n (askOf f):=rfl
 unfold hearS
 rw [e]
 split
 ·split
  ·split
   ·rfl
   ·split <;> rfl
  ·rfl
 ·rfl
theorem hearR_lf (S:St) (x:Nat→ByteArray) (n:Nat) (f:ByteArray):hearR { S with lf:=x } n f = hearR S n f:=rfl
theorem hears_lf (S:St) (x:Nat→ByteArray) (n:Nat) (b:ByteArray):∀ k,hearsS { S with lf:=x } n b k = { hearsS S n b k with lf:=x }
 | 0=>rfl
 | k + 1=>by rw [hearsS,hearsS,hears_lf S x n b k,hear_lf]
theorem hearsR_lf (S:St) (x:Nat→ByteArray) (n:Nat) (b:ByteArray):∀ k,hearsR { S with lf:=x } n b k = hearsR S n b k
 | 0=>rfl
 | k + 1=>by rw [hearsR,hearsR,hearsR_lf S x n b k,hears_lf S x n b k,hearR_lf]
theorem hears_split (S:St) (n:Nat) (b c:ByteArray) (k1:Nat):∀ k2,(∀ j,j < k2→fr b (k1 + j) = fr c j)→hearsS S n b (k1 + k2) = hearsS (hearsS S n b k1) n c k2∧hearsR S n b (k1 + k2) = hearsR S n b k1++hearsR (hearsS S n b k1) n c k2
 | 0,_=>⟨rfl,(List.append_nil _).symm⟩
 | k2 + 1,h=>by
  obtain ⟨h1,h2⟩:=hears_split S n b c k1 k2 (fun j hj=>h j (by omega))
  have h3:=h k2 (by omega)
  refine ⟨?_,?_⟩
  ·rw [← Nat.add_assoc,hearsS,hearsS,h1,h3]
  ·rw [← Nat.add_assoc,hearsR,hearsR,h1,h2,h3,List.append_assoc]
theorem hears_congr (S:St) (n:Nat) (b c:ByteArray) (k:Nat) (h:∀ j,j < k→fr b j = fr c j):hearsS S n b k = hearsS S n c k∧hearsR S n b k = hearsR S n c k:=by
 obtain ⟨h1,h2⟩:=hears_split S n b c 0 k (fun j hj=>by rw [Nat.zero_add];exact h j hj)
 rw [Nat.zero_add] at h1 h2
 exact ⟨h1,h2⟩
theorem hear_down (S:St) (n:Nat) (f:ByteArray):(hearS S n f).down = S.down∧(hearS S n f).lf = S.lf:=by
 unfold hearS
 split
 ·split
  ·split
   ·exact ⟨rfl,rfl⟩
   ·split <;> exact ⟨rfl,rfl⟩
  ·exact ⟨rfl,rfl⟩
 ·exact ⟨rfl,rfl⟩
theorem hears_down (S:St) (n:Nat) (b:ByteArray):∀ k,(hearsS S n b k).down = S.down∧(hearsS S n b k).lf = S.lf
 | 0=>⟨rfl,rfl⟩
 | k + 1=>by
  have h1:=hears_down S n b k
  have h2:=hear_down (hearsS S n b k) n (fr b k)
  exact ⟨h2.1.trans h1.1,h2.2.trans h1.2⟩
theorem feed_append (S:St) (n:Int) (a c:ByteArray):feedS S n (a++c) = feedS (feedS S n a) n c∧feedR S n (a++c) = feedR S n a++feedR (feedS S n a) n c:=by
 by_cases hc:S.down = true∨Wi.withinB n 0 5 = false
 ·have e1:∀ x,feedS S n x = S:=fun x=>by unfold feedS;rw [if_pos hc]
  have e2:∀ x,feedR S n x = []:=fun x=>by unfold feedR;rw [if_pos hc]
  refine ⟨by rw [e1,e1,e1],by rw [e1,e2,e2,e2];rfl⟩
 ·obtain ⟨m,hm⟩:∃ m,n.toNat = m:=⟨_,rfl⟩
  obtain ⟨b,hb⟩:∃ b,S.lf m++a = b:=⟨_,rfl⟩
  have e1:feedS S n a = { hearsS S m b (b.size / 30) with lf:=upd S.lf m (restB b) }:=by
   unfold feedS;rw [if_neg hc,hm,hb];exact hears_lf S _ m b _
  have r1:feedR S n a = hearsR S m b (b.size / 30):=by
   unfold feedR;rw [if_neg hc,hm,hb];exact hearsR_lf S _ m b _
  have hb2:S.lf m++(a++c) = b++c:=by rw [← hb,ByteArray.append_assoc]
  have e2:feedS S n (a++c) = { hearsS S m (b++c) ((b++c).size / 30) with lf:=upd S.lf m (restB (b++c)) }:=by
   unfold feedS;rw [if_neg hc,hm,hb2];exact hears_lf S _ m _ _
  have r2:feedR S n (a++c) = hearsR S m (b++c) ((b++c).size / 30):=by
   unfold feedR;rw [if_neg hc,hm,hb2];exact hearsR_lf S _ m _ _
  obtain ⟨d1,_⟩:=hears_down S m b (b.size / 30)
  have hc2:¬ ((feedS S n a).down = true∨Wi.withinB n 0 5 = false):=by
   rw [e1];show ¬ ((hearsS S m b (b.size / 30)).down = true∨_);rw [d1];exact hc
  have hl:(feedS S n a).lf m = restB b:=by rw [e1];exact upd_same _ _ _
  have e3:feedS (feedS S n a) n c = { hearsS (hearsS S m b (b.size / 30)) m (restB b++c) ((restB b++c).size / 30) with lf:=upd S.lf m (restB (restB b++c)) }:=by
   rw [feedS,if_neg hc2,hm,hl,e1]
   unfold fedS
   simp only [upd_upd]
   exact hears_lf _ _ m _ _
  have r3:feedR (feedS S n a) n c = hearsR (hearsS S m b (b.size / 30)) m (restB b++c) ((restB b++c).size / 30):=by
   rw [feedR,if_neg hc2,hm,hl,e1]
   unfold fedS
   exact hearsR_lf (hearsS S m b (b.size / 30)) _ m _ _
  have hz:=size_div b c
  have hsz:(restB b++c).size = (b++c).size - 30 * (b.size / 30):=by rw [ByteArray.size_append,ByteArray.size_append,rest_sz];omega
  obtain ⟨s1,s2⟩:=hears_split S m (b++c) (restB b++c) (b.size / 30) ((restB b++c).size / 30) (fun j hj=>fr_right b c j (by omega))
  obtain ⟨c1,c2⟩:=hears_congr S m (b++c) b (b.size / 30) (fun j hj=>fr_left b c j (by omega))
  rw [e2,e3,r2,r1,r3,hz,s1,s2,c1,c2,restB_append b c]
  exact ⟨rfl,rfl⟩
theorem feed_nil {S:St} {n:Int} (h:∀ c,c < 6→(S.lf c).size < 30):feedS S n ByteArray.empty = S∧feedR S n ByteArray.empty = []:=by
 by_cases hc:S.down = true∨Wi.withinB n 0 5 = false
 ·unfold feedS feedR;rw [if_pos hc,if_pos hc];exact ⟨rfl,rfl⟩
 ·have hn:n.toNat < 6:=by
   have:Wi.withinB n 0 5 = true:=by
    cases hw:Wi.withinB n 0 5 with
    | true=>rfl
    | false=>exact absurd (.inr hw) hc
   unfold Wi.withinB at this;simp at this;omega
  have hs:=h _ hn
  have e:S.lf n.toNat++ByteArray.empty = S.lf n.toNat:=ByteArray.append_empty
  unfold feedS feedR
  rw [if_neg hc,if_neg hc,e,show (S.lf n.toNat).size / 30 = 0 by omega]
  refine ⟨?_,rfl⟩
  show fedS S n.toNat (S.lf n.toNat) = S
  unfold fedS
  rw [restB_small _ hs,upd_self]
theorem hear_mine (S:St) (n:Nat) (f:ByteArray):(∀ r∈hearR S n f,r.c = n)∧∀ c,c≠n→(hearS S n f).nx c = S.nx c:=by
 refine ⟨?_,?_⟩
 ·unfold hearR refu
  intro r hr
  split at hr
  ·split at hr
   ·split at hr
    ·simp at hr;rw [hr]
    ·cases hr
   ·simp at hr;rw [hr]
  ·simp at hr;rw [hr]
 ·intro c hc
  have e:(taken S n (askOf f)).nx c = S.nx c:=by unfold taken;exact upd_ne _ _ hc
  unfold hearS
  split
  ·split
   ·split
    ·exact e
    ·split
     ·exact e
     ·exact e
   ·rfl
  ·rfl
theorem hears_mine (S:St) (n:Nat) (b:ByteArray):∀ k,(∀ r∈hearsR S n b k,r.c = n)∧∀ c,c≠n→(hearsS S n b k).nx c = S.nx c
 | 0=>⟨fun _ h=>(by cases h),fun _ _=>rfl⟩
 | k + 1=>by
  obtain ⟨h1,h2⟩:=hears_mine S n b k
  obtain ⟨h3,h4⟩:=hear_mine (hearsS S n b k) n (fr b k)
  refine ⟨fun r hr=>?_,fun c hc=>(h4 c hc).trans (h2 c hc)⟩
  rw [hearsR,List.mem_append] at hr
  exact hr.elim (h1 r) (h3 r)
theorem feed_mine (S:St) {n:Nat} (hn:n < 6) (s:ByteArray):(∀ r∈feedR S n s,r.c = n)∧∀ c,c≠n→(feedS S n s).nx c = S.nx c:=by
 by_cases hc:S.down = true∨Wi.withinB (n:Int) 0 5 = false
 ·unfold feedS feedR;rw [if_pos hc,if_pos hc];exact ⟨fun _ h=>by (cases h),fun _ _=>rfl⟩
 ·unfold feedS feedR
  rw [if_neg hc,if_neg hc,show ((n:Int)).toNat = n by omega]
  obtain ⟨h1,h2⟩:=hears_mine (fedS S n (S.lf n++s)) n (S.lf n++s) ((S.lf n++s).size / 30)
  exact ⟨h1,h2⟩
end Ve
end Go.Proofs.YtidahfhingdlmaaGreatDoor
