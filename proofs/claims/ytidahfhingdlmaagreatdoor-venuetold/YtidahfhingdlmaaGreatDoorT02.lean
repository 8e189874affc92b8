/- Plain facts on the sum of a frame (CRC-32, bit by bit) and on the checks of a request, as functions of numbers; no program is spoken of. -/
namespace Go.Proofs.YtidahfhingdlmaaGreatDoor
namespace Wi
def bit (r:Nat):Nat:=if r % 2 = 1 then (r / 2) ^^^ 3988292384 else r / 2
def bits:Nat→Nat→Nat
 | 0,r=>r
 | n + 1,r=>bits n (bit r)
def byte (r b:Nat):Nat:=bits 8 (r ^^^ b)
def run (l:List UInt8) (r:Nat):Nat:=l.foldl (fun r b=>byte r b.toNat) r
def sum (l:List UInt8):Nat:=run l 4294967295 ^^^ 4294967295
theorem xor_lt {a b:Nat} (ha:a < 4294967296) (hb:b < 4294967296):a ^^^ b < 4294967296:=by
 have:=Nat.xor_lt_two_pow (n:=32) (x:=a) (y:=b) (by simpa using ha) (by simpa using hb)
 simpa using this
theorem bit_lt {r:Nat} (h:r < 4294967296):bit r < 4294967296:=by
 unfold bit;split
 ·exact xor_lt (by omega) (by decide)
 ·omega
theorem bits_lt:∀ (n:Nat) {r:Nat},r < 4294967296→bits n r < 4294967296
 | 0,_,h=>h
 | n + 1,_,h=>bits_lt n (bit_lt h)
theorem bits_succ:∀ (n r:Nat),bits (n + 1) r = bit (bits n r)
 | 0,_=>rfl
 | n + 1,r=>by show bits (n + 1) (bit r) = bit (bits n (bit r));exact bits_succ n (bit r)
theorem byte_lt {r b:Nat} (h:r < 4294967296) (hb:b < 256):byte r b < 4294967296:=bits_lt 8 (xor_lt h (by omega))
theorem run_lt:∀ (l:List UInt8) {r:Nat},r < 4294967296→run l r < 4294967296
 | [],_,h=>h
 | b :: l,r,h=>by
  show run l (byte r b.toNat) < 4294967296
  exact run_lt l (byte_lt h (by have:=b.toNat_lt;omega))
theorem run_snoc (l:List UInt8) (b:UInt8) (r:Nat):run (l++[b]) r = byte (run l r) b.toNat:=by
 simp [run,List.foldl_append]
theorem sum_lt (l:List UInt8):sum l < 4294967296:=xor_lt (run_lt l (by decide)) (by decide)
def withinB (x lo hi:Int):Bool:=decide (lo≤x)&&decide (x≤hi)
def kindB (k:Int):Bool:=k == 108 || k == 104 || k == 111 || k == 99 || k == 113
def boundB (k c sq it sd pr q id:Int):Bool :=
 withinB c 0 5&&withinB sq 0 1073741824&&withinB id 0 1073741824 &&
  (if k == 111 then withinB it 0 2&&withinB sd 0 1&&withinB pr 1 1000&&withinB q 1 1000 else if k == 99 then withinB it 0 2 else true)
def shapeB (k it sd pr q id:Int):Bool :=
 if k == 111 then true else if k == 99 then sd == 0&&pr == 0&&q == 0 else it == 0&&sd == 0&&pr == 0&&q == 0&&id == 0
def code (k c sq it sd pr q id:Int):Nat :=
 if kindB k then if boundB k c sq it sd pr q id then if shapeB k it sd pr q id then 0 else 3 else 2 else 4
end Wi
namespace Cv
structure Lot where
 id:Int
 ow:Int
 sd:Int
 pr:Int
 q:Int
def z:Lot:=⟨0,0,0,0,0⟩
def nth (l:List Lot) (i:Nat):Lot:=l.getD i z
def ok (x:Lot):Bool:=Wi.withinB x.id 1 1073741824&&Wi.withinB x.ow 0 5&&Wi.withinB x.sd 0 1&&Wi.withinB x.pr 1 1000&&Wi.withinB x.q 1 1000
def has (l:List Lot) (id:Int):Bool:=l.any fun x=>x.id == id
def okAt (l:List Lot) (i:Nat):Bool:=ok (nth l i)&&!has (l.take i) (nth l i).id
def WellTo (l:List Lot) (k:Nat):Prop:=∀ i,i < k→okAt l i = true
def Well (l:List Lot):Prop:=l.length≤120∧WellTo l l.length
def Oks (l:List Lot):Prop:=∀ x∈l,ok x = true
theorem nth_mem {l:List Lot} {i:Nat} (h:i < l.length):nth l i∈l:=by
 unfold nth;rw [List.getD_eq_getElem?_getD,List.getElem?_eq_getElem h];exact List.getElem_mem h
theorem take_succ {l:List Lot} {i:Nat} (h:i < l.length):l.take (i + 1) = l.take i++[nth l i]:=by
 unfold nth;rw [List.take_succ_eq_append_getElem h,List.getD_eq_getElem?_getD,List.getElem?_eq_getElem h];rfl
theorem nth_drop (l:List Lot) (k i:Nat):nth (l.drop k) i = nth l (k + i):=by
 unfold nth;rw [List.getD_eq_getElem?_getD,List.getD_eq_getElem?_getD,List.getElem?_drop]
theorem nth_take {l:List Lot} {k i:Nat} (h:i < k):nth (l.take k) i = nth l i:=by
 unfold nth;rw [List.getD_eq_getElem?_getD,List.getD_eq_getElem?_getD,List.getElem?_take_of_lt h]
theorem ok_bounds {x:Lot} (h:ok x = true):(1≤x.id∧x.id≤1073741824)∧(0≤x.ow∧x.ow≤5)∧(0≤x.sd∧x.sd≤1)∧(1≤x.pr∧x.pr≤1000)∧(1≤x.q∧x.q≤1000):=by
 simp only [ok,Wi.withinB,Bool.and_eq_true,decide_eq_true_eq] at h
 omega
theorem Well.oks {l:List Lot} (h:Well l):Oks l:=by
 intro x hx
 obtain ⟨i,hi,rfl⟩:=List.mem_iff_getElem.1 hx
 have:=h.2 i hi
 simp only [okAt,Bool.and_eq_true] at this
 have e:nth l i = l[i]:=by unfold nth;rw [List.getD_eq_getElem?_getD,List.getElem?_eq_getElem hi];rfl
 rw [← e];exact this.1
theorem Well.take {l:List Lot} (h:Well l) (k:Nat):Well (l.take k):=by
 refine ⟨by rw [List.length_take];have:=h.1;omega,fun i hi=>?_⟩
 rw [List.length_take] at hi
 have:=h.2 i (by omega)
 unfold okAt at this ⊢
 rwa [nth_take (by omega),List.take_take,Nat.min_eq_left (by omega)]
theorem has_mono {a b:List Lot} {id:Int} (h:∀ x∈a,x∈b) (hb:has b id = false):has a id = false:=by
 unfold has at *
 rw [List.any_eq_false] at *
 exact fun x hx=>hb x (h x hx)
theorem Well.drop {l:List Lot} (h:Well l) (k:Nat):Well (l.drop k):=by
 refine ⟨by rw [List.length_drop];have:=h.1;omega,fun i hi=>?_⟩
 rw [List.length_drop] at hi
 have:=h.2 (k + i) (by omega)
 unfold okAt at this ⊢
 rw [nth_drop]
 simp only [Bool.and_eq_true,Bool.not_eq_true'] at this ⊢
 refine ⟨this.1,has_mono (fun x hx=>?_) this.2⟩
 rw [List.take_drop] at hx
 exact List.mem_of_mem_drop hx
def sumIf (f:Lot→Bool):List Lot→Int
 | []=>0
 | x :: l=>(if f x = true then x.q else 0) + sumIf f l
theorem sumIf_append (f:Lot→Bool):∀ a b:List Lot,sumIf f (a++b) = sumIf f a + sumIf f b
 | [],b=>by simp [sumIf]
 | x :: a,b=>by simp [sumIf,sumIf_append f a b];omega
theorem sumIf_step (f:Lot→Bool) {l:List Lot} {k:Nat} (h:k < l.length):sumIf f (l.take (k + 1)) = sumIf f (l.take k) + if f (nth l k) = true then (nth l k).q else 0:=by
 rw [take_succ h,sumIf_append];simp [sumIf]
theorem sumIf_bounds (f:Lot→Bool):∀ l:List Lot,Oks l→0≤sumIf f l∧sumIf f l≤1000 * l.length
 | [],_=>by simp [sumIf]
 | x :: l,h=>by
  have ih:=sumIf_bounds f l (fun y hy=>h y (List.mem_cons_of_mem _ hy))
  have hx:=(ok_bounds (h x List.mem_cons_self)).2.2.2.2
  simp only [sumIf,List.length_cons]
  split <;> omega
theorem Oks.take {l:List Lot} (h:Oks l) (k:Nat):Oks (l.take k):=fun x hx=>h x (List.mem_of_mem_take hx)
theorem sumIf_congr {f g:Lot→Bool}:∀ l:List Lot,(∀ x∈l,f x = g x)→sumIf f l = sumIf g l
 | [],_=>rfl
 | x :: l,h=>by
  simp only [sumIf]
  rw [sumIf_congr l (fun y hy=>h y (List.mem_cons_of_mem _ hy)),h x List.mem_cons_self]
theorem sumIf_zero {f:Lot→Bool} (l:List Lot) (h:∀ x∈l,f x = false):sumIf f l = 0:=by
 rw [sumIf_congr (g:=fun _=>false) l h]
 clear h
 induction l with
 | nil=>rfl
 | cons x l ih=>simp [sumIf,ih]
def dB (p:Int) (x:Lot):Bool:=x.sd == 0&&decide (p≤x.pr)
def sB (p:Int) (x:Lot):Bool:=x.sd == 1&&decide (x.pr≤p)
def demand (l:List Lot) (p:Int):Int:=sumIf (dB p) l
def supply (l:List Lot) (p:Int):Int:=sumIf (sB p) l
def better (side p than:Int):Bool:=if side = 0 then decide (than < p) else decide (p < than)
def bstep (side b:Int) (x:Lot):Int:=if (x.sd == side&&(b == 0 || better side x.pr b)) = true then x.pr else b
def best (side:Int) (l:List Lot):Int:=l.foldl (bstep side) 0
def volume (l:List Lot) (p:Int):Int:=min (demand l p) (supply l p)
end Cv
namespace Ra
open Cv
def tot:List Lot→Int
 | []=>0
 | x :: l=>x.q + tot l
def Pos (l:List Lot):Prop:=∀ x∈l,1≤x.q
theorem tot_append:∀ a b:List Lot,tot (a++b) = tot a + tot b
 | [],b=>by simp [tot]
 | x :: a,b=>by simp [tot,tot_append a b];omega
theorem tot_perm {a b:List Lot} (h:a.Perm b):tot a = tot b:=by
 induction h with
 | nil=>rfl
 | cons x _ ih=>simp [tot,ih]
 | swap x y l=>simp [tot];omega
 | trans _ _ h1 h2=>exact h1.trans h2
theorem tot_nonneg:∀ l:List Lot,Pos l→0≤tot l
 | [],_=>by simp [tot]
 | x :: l,h=>by
  have h1:=h x List.mem_cons_self
  have h2:=tot_nonneg l (fun y hy=>h y (List.mem_cons_of_mem _ hy))
  simp only [tot];omega
theorem tot_filter (f:Lot→Bool):∀ l:List Lot,tot (l.filter f) = sumIf f l
 | []=>rfl
 | x :: l=>by
  have ih:=tot_filter f l
  rw [List.filter_cons]
  simp only [sumIf]
  split
  ·simp [tot,ih]
  ·simp [ih]
def fill:List Lot→Int→List (Int × Int)
 | [],_=>[]
 | x :: l,v=>if v = 0 then [] else (x.id,min x.q v) :: fill l (v - min x.q v)
theorem fill_zero:∀ l:List Lot,fill l 0 = []
 | []=>rfl
 | x :: l=>by simp [fill]
theorem fill_append:∀ (a b:List Lot) (v:Int),Pos a→0≤v→fill (a++b) v = fill a v++fill b (v - min (tot a) v)
 | [],b,v,_,hv=>by
  have:v - min 0 v = v:=by omega
  simp [fill,tot,this]
 | x :: a,b,v,h,hv=>by
  have hx:=h x List.mem_cons_self
  have ha:Pos a:=fun y hy=>h y (List.mem_cons_of_mem _ hy)
  have hn:=tot_nonneg a ha
  rw [List.cons_append]
  by_cases e:v = 0
  ·subst e
   have:(0:Int) - min (tot (x :: a)) 0 = 0:=by simp only [tot];omega
   rw [this,fill_zero,fill_zero,fill_zero];rfl
  ·rw [fill,fill,if_neg e,if_neg e,fill_append a b _ ha (by omega),List.cons_append]
   have:v - min x.q v - min (tot a) (v - min x.q v) = v - min (tot (x :: a)) v:=by simp only [tot];omega
   rw [this]
def qs:List (Int × Int)→Int
 | []=>0
 | x :: l=>x.2 + qs l
theorem qs_append:∀ a b:List (Int × Int),qs (a++b) = qs a + qs b
 | [],b=>by simp [qs]
 | x :: a,b=>by simp [qs,qs_append a b];omega
theorem fill_sum:∀ (l:List Lot) (v:Int),Pos l→0≤v→qs (fill l v) = min (tot l) v
 | [],v,_,hv=>by simp [fill,qs,tot];omega
 | x :: l,v,h,hv=>by
  have hx:=h x List.mem_cons_self
  have ha:Pos l:=fun y hy=>h y (List.mem_cons_of_mem _ hy)
  have hn:=tot_nonneg l ha
  rw [fill]
  split
  ·simp [qs,tot];omega
  ·simp only [qs,tot]
   rw [fill_sum l _ ha (by omega)]
   omega
theorem fill_mem:∀ (l:List Lot) (v:Int),Pos l→0≤v→∀ f∈fill l v,1≤f.2∧∃ x∈l,x.id = f.1
 | [],v,_,_,f,hf=>by simp [fill] at hf
 | x :: l,v,h,hv,f,hf=>by
  have hx:=h x List.mem_cons_self
  have ha:Pos l:=fun y hy=>h y (List.mem_cons_of_mem _ hy)
  rw [fill] at hf
  split at hf
  ·cases hf
  ·rcases List.mem_cons.1 hf with rfl | hf
   ·exact ⟨by simp only [];omega,x,List.mem_cons_self,rfl⟩
   ·obtain ⟨h1,y,hy,e⟩:=fill_mem l _ ha (by omega) f hf
    exact ⟨h1,y,List.mem_cons_of_mem _ hy,e⟩
def got (id:Int):List (Int × Int)→Int
 | []=>0
 | f :: l=>(if f.1 = id then f.2 else 0) + got id l
theorem got_append (id:Int):∀ a b:List (Int × Int),got id (a++b) = got id a + got id b
 | [],b=>by simp [got]
 | x :: a,b=>by simp [got,got_append id a b];omega
theorem got_none (id:Int):∀ l:List (Int × Int),(∀ f∈l,f.1≠id)→got id l = 0
 | [],_=>rfl
 | f :: l,h=>by
  have h1:=h f List.mem_cons_self
  have h2:=got_none id l (fun g hg=>h g (List.mem_cons_of_mem _ hg))
  simp [got,h1,h2]
def Once (l:List Lot):Prop:=(l.map (·.id)).Nodup
theorem Once.perm {a b:List Lot} (h:Once a) (p:a.Perm b):Once b:=(p.map _).nodup_iff.1 h
theorem got_fill (a:List Lot) (x:Lot) (b:List Lot) (v:Int) (h:Pos (a++x :: b)) (hv:0≤v) (ho:Once (a++x :: b)):got x.id (fill (a++x :: b) v) = max 0 (min x.q (v - tot a)):=by
 have ha:Pos a:=fun y hy=>h y (List.mem_append_left _ hy)
 have hb:Pos b:=fun y hy=>h y (List.mem_append_right _ (List.mem_cons_of_mem _ hy))
 have hx:=h x (List.mem_append_right _ List.mem_cons_self)
 have hn:=tot_nonneg a ha
 unfold Once at ho
 rw [List.map_append,List.map_cons,List.nodup_append] at ho
 obtain ⟨_,ho2,ho3⟩:=ho
 obtain ⟨ho4,_⟩:=List.nodup_cons.1 ho2
 rw [fill_append a _ v ha hv,got_append,got_none x.id (fill a v)]
 ·rw [fill]
  have hz:∀ u,0≤u→got x.id (fill b u) = 0:=fun u hu=>got_none _ _ fun f hf e=>by
   obtain ⟨_,y,hy,e2⟩:=fill_mem b u hb hu f hf
   exact ho4 (List.mem_map.2 ⟨y,hy,e2.trans e⟩)
  split
  ·simp only [got];omega
  ·simp only [got,if_true]
   rw [hz _ (by omega)]
   omega
 ·intro f hf e
  obtain ⟨_,y,hy,e2⟩:=fill_mem a v ha hv f hf
  exact ho3 _ (List.mem_map.2 ⟨y,hy,rfl⟩) _ List.mem_cons_self (e2.trans e)
theorem got_out (s:List Lot) (id v:Int) (h:Pos s) (hv:0≤v) (hn:∀ x∈s,x.id≠id):got id (fill s v) = 0 :=
 got_none _ _ fun f hf e=>by
  obtain ⟨_,y,hy,e2⟩:=fill_mem s v h hv f hf
  exact hn y hy (e2.trans e)
def gots (F:List (Int × Int)):List Lot→Int
 | []=>0
 | x :: l=>got x.id F + gots F l
theorem gots_none (id q:Int) (F:List (Int × Int)):∀ l:List Lot,(∀ x∈l,x.id≠id)→gots ((id,q) :: F) l = gots F l
 | [],_=>rfl
 | x :: l,h=>by
  have h1:¬ id = x.id:=fun e=>h x List.mem_cons_self e.symm
  simp only [gots,got]
  rw [if_neg h1,gots_none id q F l (fun y hy=>h y (List.mem_cons_of_mem _ hy))];omega
theorem gots_one (id q:Int) (F:List (Int × Int)):∀ l:List Lot,Once l→(∃ x∈l,x.id = id)→gots ((id,q) :: F) l = q + gots F l
 | [],_,h=>by obtain ⟨x,hx,_⟩:=h;cases hx
 | x :: l,ho,h=>by
  obtain ⟨ho1,ho2⟩:=List.nodup_cons.1 ho
  by_cases e:id = x.id
  ·simp only [gots,got]
   rw [if_pos e,gots_none id q F l (fun y hy e2=>ho1 (List.mem_map.2 ⟨y,hy,e2.trans e⟩))];omega
  ·simp only [gots,got]
   rw [if_neg e,gots_one id q F l ho2 ?_]
   ·omega
   ·obtain ⟨y,hy,e2⟩:=h
    rcases List.mem_cons.1 hy with rfl | hy
    ·exact absurd e2.symm e
    ·exact ⟨y,hy,e2⟩
theorem gots_sum (l:List Lot) (ho:Once l):∀ F:List (Int × Int),(∀ f∈F,∃ x∈l,x.id = f.1)→gots F l = qs F
 | [],_=>by
  simp only [qs]
  clear ho
  induction l with
  | nil=>rfl
  | cons x l ih=>simp [gots,got,ih]
 | f :: F,h=>by
  rw [show f = (f.1,f.2) from rfl,gots_one f.1 f.2 F l ho (h f List.mem_cons_self),gots_sum l ho F (fun g hg=>h g (List.mem_cons_of_mem _ hg))]
  rfl
/-! levels -/
def lv (l:List Lot) (sd p:Int):List Lot:=l.filter fun x=>x.sd == sd&&x.pr == p
def arr (sh:List Lot→List Lot) (x:List Lot) (v:Int):List Lot:=if v < tot x then sh x else x
def row (sh:List Lot→List Lot) (l:List Lot) (sd:Int):List Int→Int→List Lot
 | [],_=>[]
 | p :: ps,v=>arr sh (lv l sd p) v++row sh l sd ps (v - min (tot (lv l sd p)) v)
def Mix (sh:List Lot→List Lot):Prop:=∀ l,(sh l).Perm l
theorem arr_perm {sh:List Lot→List Lot} (hs:Mix sh) (x:List Lot) (v:Int):(arr sh x v).Perm x:=by
 unfold arr;split
 ·exact hs x
 ·exact List.Perm.refl _
theorem lv_pos {l:List Lot} (h:Pos l) (sd p:Int):Pos (lv l sd p):=fun x hx=>h x (List.mem_filter.1 hx).1
theorem arr_pos {sh:List Lot→List Lot} (hs:Mix sh) {x:List Lot} (h:Pos x) (v:Int):Pos (arr sh x v):=fun y hy=>h y ((arr_perm hs x v).mem_iff.1 hy)
theorem tot_arr {sh:List Lot→List Lot} (hs:Mix sh) (x:List Lot) (v:Int):tot (arr sh x v) = tot x:=tot_perm (arr_perm hs x v)
theorem row_perm {sh:List Lot→List Lot} (hs:Mix sh) (l:List Lot) (sd:Int):∀ (ps:List Int) (v:Int),(row sh l sd ps v).Perm (ps.flatMap (lv l sd))
 | [],_=>List.Perm.refl _
 | p :: ps,v=>by
  rw [List.flatMap_cons]
  exact (arr_perm hs _ _).append (row_perm hs l sd ps _)
def sf (sh:List Lot→List Lot) (l:List Lot) (sd:Int) (ps:List Int) (v:Int):List (Int × Int):=fill (row sh l sd ps v) v
theorem sf_cons {sh:List Lot→List Lot} (hs:Mix sh) {l:List Lot} (h:Pos l) (sd p:Int) (ps:List Int) (v:Int) (hv:0≤v) :
  sf sh l sd (p :: ps) v = fill (arr sh (lv l sd p) v) v++sf sh l sd ps (v - min (tot (lv l sd p)) v):=by
 unfold sf
 rw [row,fill_append _ _ _ (arr_pos hs (lv_pos h sd p) v) hv,tot_arr hs]
theorem sf_empty {sh:List Lot→List Lot} (hs:Mix sh) {l:List Lot} (h:Pos l) (sd p:Int) (ps:List Int) (v:Int) (hv:0≤v) (he:lv l sd p = []):sf sh l sd (p :: ps) v = sf sh l sd ps v:=by
 rw [sf_cons hs h sd p ps v hv,he]
 have e1:arr sh [] v = []:=by unfold arr;rw [if_neg (by simp [tot];omega)]
 have e2:v - min (tot []) v = v:=by simp [tot];omega
 rw [e1,e2];rfl
theorem sf_filter {sh:List Lot→List Lot} (hs:Mix sh) {l:List Lot} (h:Pos l) (sd:Int):∀ (ps:List Int) (v:Int),0≤v→sf sh l sd (ps.filter fun p=>!(lv l sd p).isEmpty) v = sf sh l sd ps v
 | [],_,_=>rfl
 | p :: ps,v,hv=>by
  rw [List.filter_cons]
  split
  ·have h2:=tot_nonneg _ (lv_pos h sd p)
   rw [sf_cons hs h sd p _ v hv,sf_cons hs h sd p _ v hv,sf_filter hs h sd ps _ (by omega)]
  ·rename_i e
   rw [sf_empty hs h sd p ps v hv (by simpa using e),sf_filter hs h sd ps v hv]
/-! who is worse than a price -/
def el (sd price:Int) (x:Lot):Bool:=x.sd == sd&&!better sd price x.pr
def Falls (sd:Int) (ps:List Int):Prop:=ps.Pairwise fun p q=>better sd p q = true
theorem better_irrefl (sd p:Int):better sd p p = false:=by unfold better;split <;> simp
theorem filter_or_perm {α:Type} (f g:α→Bool):∀ l:List α,(∀ x∈l,f x = true→g x = false)→(l.filter fun x=>f x || g x).Perm (l.filter f++l.filter g)
 | [],_=>List.Perm.refl _
 | x :: l,h=>by
  have ih:=filter_or_perm f g l (fun y hy=>h y (List.mem_cons_of_mem _ hy))
  have hx:=h x List.mem_cons_self
  rw [List.filter_cons,List.filter_cons,List.filter_cons]
  cases hf:f x
  ·cases hg:g x
   ·simpa using ih
   ·simpa using (ih.cons x).trans List.perm_middle.symm
  ·simpa [hx hf] using ih.cons x
theorem levels_perm (l:List Lot) (sd:Int):∀ ps:List Int,ps.Nodup→(ps.flatMap (lv l sd)).Perm (l.filter fun x=>x.sd == sd&&ps.contains x.pr)
 | [],_=>by simp
 | p :: ps,h=>by
  obtain ⟨h1,h2⟩:=List.nodup_cons.1 h
  rw [List.flatMap_cons]
  have ih:=levels_perm l sd ps h2
  have hp:=filter_or_perm (fun x:Lot=>x.sd == sd&&x.pr == p) (fun x:Lot=>x.sd == sd&&ps.contains x.pr) l fun x _ hx=>by
   simp only [Bool.and_eq_true,beq_iff_eq] at hx
   rw [hx.2];simp [h1]
  have he:(fun x:Lot=>x.sd == sd&&(p :: ps).contains x.pr) = fun x:Lot=>(x.sd == sd&&x.pr == p) || (x.sd == sd&&ps.contains x.pr):=by
   funext x
   rw [List.contains_cons]
   cases x.sd == sd <;> simp
  rw [he]
  exact ((List.Perm.refl _).append ih).trans hp.symm
/-! the three facts: within,whole ahead,one level alone -/
theorem got_within {s:List Lot} {v:Int} (h:Pos s) (hv:0≤v) (ho:Once s) {x:Lot} (hx:x∈s):0≤got x.id (fill s v)∧got x.id (fill s v)≤x.q:=by
 obtain ⟨a,b,rfl⟩:=List.append_of_mem hx
 have hq:=h x hx
 rw [got_fill a x b v h hv ho];omega
end Ra
namespace Bk
open Cv Ra
def pos (l:List Lot) (id:Int):Nat:=l.findIdx fun x=>x.id == id
def del (l:List Lot) (k:Nat):List Lot:=l.take k++l.drop (k + 1)
def put (l:List Lot) (k:Nat) (x:Lot):List Lot:=l.take k++x :: l.drop (k + 1)
def less (x:Lot) (q:Int):Lot:=⟨x.id,x.ow,x.sd,x.pr,x.q - q⟩
structure Good (l:List Lot):Prop where
 oks:Oks l
 len:l.length≤60
 once:Once l
theorem good_nil:Good []:=⟨fun _ h=>absurd h List.not_mem_nil,Nat.zero_le _,List.nodup_nil⟩
theorem pos_le (l:List Lot) (id:Int):pos l id≤l.length:=List.findIdx_le_length
theorem pos_has {l:List Lot} {id:Int}:has l id = true↔pos l id < l.length:=by
 unfold has pos
 rw [List.findIdx_lt_length,List.any_eq_true]
theorem pos_hasnt {l:List Lot} {id:Int}:has l id = false↔pos l id = l.length:=by
 have h1:=pos_has (l:=l) (id:=id)
 have h2:=pos_le l id
 cases h:has l id
 ·simp only [h] at h1;simp at h1;simp;omega
 ·have:=h1.1 h;simp;omega
theorem nth_get {l:List Lot} {i:Nat} (h:i < l.length):nth l i = l[i]:=by
 unfold nth;rw [List.getD_eq_getElem?_getD,List.getElem?_eq_getElem h];rfl
theorem pos_id {l:List Lot} {id:Int} (h:pos l id < l.length):(nth l (pos l id)).id = id:=by
 rw [nth_get h]
 have:=List.findIdx_getElem (p:=fun x:Lot=>x.id == id) (xs:=l) (w:=h)
 exact eq_of_beq this
theorem split_at {l:List Lot} {k:Nat} (h:k < l.length):l = l.take k++nth l k :: l.drop (k + 1):=by
 rw [nth_get h,List.getElem_cons_drop,List.take_append_drop]
theorem del_length {l:List Lot} {k:Nat} (h:k < l.length):(del l k).length = l.length - 1:=by
 unfold del;rw [List.length_append,List.length_take,List.length_drop];omega
theorem put_length {l:List Lot} {k:Nat} (h:k < l.length) (x:Lot):(put l k x).length = l.length:=by
 unfold put;rw [List.length_append,List.length_cons,List.length_take,List.length_drop];omega
theorem mem_del {l:List Lot} {k:Nat} {x:Lot} (h:x∈del l k):x∈l:=by
 rcases List.mem_append.1 h with h | h
 ·exact List.mem_of_mem_take h
 ·exact List.mem_of_mem_drop h
theorem good_del {l:List Lot} (h:Good l) {k:Nat} (hk:k < l.length):Good (del l k):=by
 refine ⟨fun x hx=>h.oks x (mem_del hx),by rw [del_length hk];have:=h.len;omega,?_⟩
 have ho:=h.once
 unfold Once at ho ⊢
 refine List.Nodup.sublist ?_ ho
 refine List.Sublist.map _ ?_
 have e:=split_at hk
 exact Eq.subst (motive:=fun m=>(del l k).Sublist m) e.symm (List.Sublist.append (List.Sublist.refl _) (List.sublist_cons_self _ _))
theorem good_add {l:List Lot} (h:Good l) {x:Lot} (hx:ok x = true) (hn:has l x.id = false) (hl:l.length < 60):Good (l++[x]):=by
 refine ⟨fun y hy=>?_,by simp;omega,?_⟩
 ·rcases List.mem_append.1 hy with hy | hy
  ·exact h.oks y hy
  ·rw [List.mem_singleton.1 hy];exact hx
 ·have ho:=h.once
  unfold Once at ho ⊢
  rw [List.map_append,List.nodup_append]
  refine ⟨ho,by simp,fun a ha b hb=>?_⟩
  obtain ⟨y,hy,rfl⟩:=List.mem_map.1 ha
  obtain rfl:b = x.id:=by simpa using hb
  intro e
  have:has l x.id = true:=List.any_eq_true.2 ⟨y,hy,by simpa using e⟩
  rw [hn] at this;cases this
theorem ok_less {x:Lot} {q:Int} (h:ok x = true) (h1:1≤q) (h2:q < x.q):ok (less x q) = true:=by
 have:=ok_bounds h
 simp only [ok,Wi.withinB,less,Bool.and_eq_true]
 refine ⟨⟨⟨⟨⟨?_,?_⟩,?_,?_⟩,?_,?_⟩,?_,?_⟩,?_,?_⟩ <;> exact decide_eq_true (by omega)
def addC (l:List Lot) (x:Lot):Nat:=if ok x = true then if has l x.id = true then 2 else if 60≤l.length then 3 else 0 else 1
def addL (l:List Lot) (x:Lot):List Lot:=if addC l x = 0 then l++[x] else l
def canC (l:List Lot) (id:Int):Nat:=if has l id = true then 0 else 4
def canL (l:List Lot) (id:Int):List Lot:=if canC l id = 0 then del l (pos l id) else l
def canX (l:List Lot) (id:Int):Lot:=if canC l id = 0 then nth l (pos l id) else z
def takC (l:List Lot) (id q:Int):Nat:=if has l id = true then if Wi.withinB q 1 (nth l (pos l id)).q = true then 0 else 1 else 4
def takL (l:List Lot) (id q:Int):List Lot:=if takC l id q = 0 then if q = (nth l (pos l id)).q then del l (pos l id) else put l (pos l id) (less (nth l (pos l id)) q) else l
theorem add_ok {l:List Lot} {x:Lot} (h:addC l x = 0):ok x = true∧has l x.id = false∧l.length < 60:=by
 unfold addC at h
 by_cases h1:ok x = true
 ·rw [if_pos h1] at h
  by_cases h2:has l x.id = true
  ·rw [if_pos h2] at h;cases h
  ·rw [if_neg h2] at h
   by_cases h3:60≤l.length
   ·rw [if_pos h3] at h;cases h
   ·exact ⟨h1,by simpa using h2,by omega⟩
 ·rw [if_neg h1] at h;cases h
def pj (sd:Int) (j:Nat):Int:=if sd = 0 then 1000 - (j:Int) else 1 + (j:Int)
def all (sd:Int):List Int:=(List.range 1000).map (pj sd)
end Bk
namespace Pu
def add (f:Nat→Int) (i:Nat) (v:Int):Nat→Int:=fun j=>if j = i then f j + v else f j
def dl (i:Nat) (v:Int) (j:Nat):Int:=if j = i then v else 0
theorem add_dl (f:Nat→Int) (i:Nat) (v:Int) (j:Nat):add f i v j = f j + dl i v j:=by
 unfold add dl;split <;> simp
theorem add_at (f:Nat→Int) (i:Nat) (v:Int):add f i v i = f i + v:=by simp [add]
theorem add_ne (f:Nat→Int) {i j:Nat} (v:Int) (h:j≠i):add f i v j = f j:=by simp [add,h]
structure Good (f:Nat→Int):Prop where
 cash:∀ c,c < 6→0≤f (c * 8 + 1)∧f (c * 8 + 1)≤f (c * 8)∧f (c * 8)≤1099511627776
 stock:∀ c k,c < 6→k < 3→0≤f (c * 8 + 5 + k)∧f (c * 8 + 5 + k)≤f (c * 8 + 2 + k)∧f (c * 8 + 2 + k)≤1073741824
theorem good_zero:Good (fun _=>0):=⟨fun _ _=>by omega,fun _ _ _ _=>by omega⟩
def well (item:Int) (x:Cv.Lot):Bool:=Wi.withinB item 0 2&&Cv.ok x
theorem well_item {item:Int} {x:Cv.Lot} (h:well item x = true):∃ k:Nat,item = k∧k < 3:=by
 simp only [well,Wi.withinB,Bool.and_eq_true,decide_eq_true_eq] at h
 exact ⟨item.toNat,by omega,by omega⟩
theorem well_ok {item:Int} {x:Cv.Lot} (h:well item x = true):Cv.ok x = true:=by
 simp only [well,Bool.and_eq_true] at h;exact h.2
theorem well_ow {item:Int} {x:Cv.Lot} (h:well item x = true):∃ c:Nat,x.ow = c∧c < 6:=by
 have:=Cv.ok_bounds (well_ok h)
 exact ⟨x.ow.toNat,by omega,by omega⟩
def hx (item:Int) (x:Cv.Lot):Nat:=if x.sd = 0 then x.ow.toNat * 8 + 1 else x.ow.toNat * 8 + 5 + item.toNat
def tx (item:Int) (x:Cv.Lot):Nat:=if x.sd = 0 then x.ow.toNat * 8 else x.ow.toNat * 8 + 2 + item.toNat
def mu (x:Cv.Lot):Int:=if x.sd = 0 then x.pr * x.q else x.q
theorem mul_bounds {a b:Int} {n m:Int} (h1:1≤a) (h2:a≤n) (h3:1≤b) (h4:b≤m):1≤a * b∧a * b≤n * m:=by
 refine ⟨?_,?_⟩
 ·have:=Int.mul_le_mul h1 h3 (by omega) (by omega);simpa using this
 ·exact Int.mul_le_mul h2 h4 (by omega) (by omega)
theorem mu_bounds {x:Cv.Lot} (h:Cv.ok x = true):1≤mu x∧mu x≤1000000:=by
 obtain ⟨_,_,_,h4,h5⟩:=Cv.ok_bounds h
 unfold mu
 split
 ·have:=mul_bounds h4.1 h4.2 h5.1 h5.2;omega
 ·omega
theorem places {item:Int} {x:Cv.Lot} (h:well item x = true):(∃ c:Nat,c < 6∧hx item x = c * 8 + 1∧tx item x = c * 8)∨∃ c k:Nat,c < 6∧k < 3∧hx item x = c * 8 + 5 + k∧tx item x = c * 8 + 2 + k:=by
 obtain ⟨k,hk,hk3⟩:=well_item h
 obtain ⟨c,hc,hc6⟩:=well_ow h
 unfold hx tx
 split
 ·exact .inl ⟨c,hc6,by omega,by omega⟩
 ·exact .inr ⟨c,k,hc6,hk3,by omega,by omega⟩
theorem place_lt {item:Int} {x:Cv.Lot} (h:well item x = true):hx item x < 48∧tx item x < 48:=by
 rcases places h with ⟨c,h1,h2,h3⟩ | ⟨c,k,h1,h4,h2,h3⟩ <;> omega
theorem good_at {f:Nat→Int} (hg:Good f) {item:Int} {x:Cv.Lot} (h:well item x = true):0≤f (hx item x)∧f (hx item x)≤f (tx item x)∧f (tx item x)≤1099511627776:=by
 rcases places h with ⟨c,h1,h2,h3⟩ | ⟨c,k,h1,h4,h2,h3⟩
 ·rw [h2,h3];exact hg.cash c h1
 ·rw [h2,h3];have:=hg.stock c k h1 h4;omega
theorem good_held {f:Nat→Int} (hg:Good f) {item:Int} {x:Cv.Lot} (h:well item x = true) (v:Int) (h0:0≤f (hx item x) + v) (h1:f (hx item x) + v≤f (tx item x)):Good (add f (hx item x) v):=by
 rcases places h with ⟨c,c1,e1,e2⟩ | ⟨c,k,c1,k1,e1,e2⟩
 ·rw [e1] at h0 h1 ⊢
  rw [e2] at h1
  refine ⟨fun c' hc'=>?_,fun c' k' hc' hk'=>?_⟩
  ·have:=hg.cash c' hc'
   by_cases e:c' = c
   ·subst e;rw [add_at,add_ne _ _ (by omega)];omega
   ·rw [add_ne _ _ (by omega),add_ne _ _ (by omega)];exact this
  ·rw [add_ne _ _ (by omega),add_ne _ _ (by omega)];exact hg.stock c' k' hc' hk'
 ·rw [e1] at h0 h1 ⊢
  rw [e2] at h1
  refine ⟨fun c' hc'=>?_,fun c' k' hc' hk'=>?_⟩
  ·rw [add_ne _ _ (by omega),add_ne _ _ (by omega)];exact hg.cash c' hc'
  ·have:=hg.stock c' k' hc' hk'
   by_cases e:c' = c∧k' = k
   ·obtain ⟨rfl,rfl⟩:=e;rw [add_at,add_ne _ _ (by omega)];omega
   ·rw [add_ne _ _ (by omega),add_ne _ _ (by omega)];exact this
def holdC (f:Nat→Int) (item:Int) (x:Cv.Lot):Nat:=if well item x = true then (if f (tx item x) - f (hx item x) < mu x then 9 else 0) else 1
def holdF (f:Nat→Int) (item:Int) (x:Cv.Lot):Nat→Int:=if holdC f item x = 0 then add f (hx item x) (mu x) else f
def freeC (f:Nat→Int) (item:Int) (x:Cv.Lot):Nat:=if well item x = true then (if f (hx item x) < mu x then 9 else 0) else 1
def freeF (f:Nat→Int) (item:Int) (x:Cv.Lot):Nat→Int:=if freeC f item x = 0 then add f (hx item x) (-(mu x)) else f
theorem hold_zero {f:Nat→Int} {item:Int} {x:Cv.Lot} (h:holdC f item x = 0):well item x = true∧¬ f (tx item x) - f (hx item x) < mu x:=by
 unfold holdC at h
 split at h
 ·split at h
  ·exact absurd h (by decide)
  ·exact ⟨by assumption,by assumption⟩
 ·exact absurd h (by decide)
theorem free_zero {f:Nat→Int} {item:Int} {x:Cv.Lot} (h:freeC f item x = 0):well item x = true∧¬ f (hx item x) < mu x:=by
 unfold freeC at h
 split at h
 ·split at h
  ·exact absurd h (by decide)
  ·exact ⟨by assumption,by assumption⟩
 ·exact absurd h (by decide)
theorem good_hold {f:Nat→Int} (hg:Good f) (item:Int) (x:Cv.Lot):Good (holdF f item x):=by
 unfold holdF
 split
 ·rename_i h
  obtain ⟨h1,h2⟩:=hold_zero h
  have:=good_at hg h1
  have:=mu_bounds (well_ok h1)
  exact good_held hg h1 _ (by omega) (by omega)
 ·exact hg
theorem good_free {f:Nat→Int} (hg:Good f) (item:Int) (x:Cv.Lot):Good (freeF f item x):=by
 unfold freeF
 split
 ·rename_i h
  obtain ⟨h1,h2⟩:=free_zero h
  have:=good_at hg h1
  have:=mu_bounds (well_ok h1)
  exact good_held hg h1 _ (by omega) (by omega)
 ·exact hg
structure Gift where
 n:Int
 cash:Int
 s0:Int
 s1:Int
 s2:Int
def Gift.neg (g:Gift):Bool:=decide (g.s0 < 0) || decide (g.s1 < 0) || decide (g.s2 < 0) || decide (g.cash < 0)
def Gift.fine (g:Gift):Bool:=Wi.withinB g.n 0 5&&!g.neg
def Gift.over (f:Nat→Int) (g:Gift):Bool:=decide (1099511627776 - f (g.n.toNat * 8) < g.cash) || decide (1073741824 - f (g.n.toNat * 8 + 2) < g.s0) || decide (1073741824 - f (g.n.toNat * 8 + 3) < g.s1) || decide (1073741824 - f (g.n.toNat * 8 + 4) < g.s2)
def giveC (f:Nat→Int) (g:Gift):Nat:=if g.fine = true then (if g.over f = true then 7 else 0) else 1
def giveF (f:Nat→Int) (g:Gift):Nat→Int:=if giveC f g = 0 then add (add (add (add f (g.n.toNat * 8) g.cash) (g.n.toNat * 8 + 2) g.s0) (g.n.toNat * 8 + 3) g.s1) (g.n.toNat * 8 + 4) g.s2 else f
theorem give_zero {f:Nat→Int} {g:Gift} (h:giveC f g = 0):(∃ c:Nat,g.n = c∧c < 6∧g.cash≤1099511627776 - f (c * 8)∧g.s0≤1073741824 - f (c * 8 + 2)∧g.s1≤1073741824 - f (c * 8 + 3)∧g.s2≤1073741824 - f (c * 8 + 4))∧0≤g.cash∧0≤g.s0∧0≤g.s1∧0≤g.s2:=by
 unfold giveC at h
 split at h
 ·rename_i h1
  split at h
  ·exact absurd h (by decide)
  ·rename_i h2
   simp only [Gift.over,Gift.fine,Gift.neg,Wi.withinB,Bool.or_eq_true,Bool.and_eq_true,Bool.not_eq_true',Bool.or_eq_false_iff,decide_eq_true_eq,decide_eq_false_iff_not,not_or] at h1 h2
   refine ⟨⟨g.n.toNat,by omega,by omega,?_,?_,?_,?_⟩,by omega,by omega,by omega,by omega⟩ <;> omega
 ·exact absurd h (by decide)
theorem good_give {f:Nat→Int} (hg:Good f) (g:Gift):Good (giveF f g):=by
 unfold giveF
 split
 ·rename_i h
  obtain ⟨⟨c,hc,c6,b0,b1,b2,b3⟩,p0,p1,p2,p3⟩:=give_zero h
  rw [hc,Int.toNat_natCast]
  refine ⟨fun c' hc'=>?_,fun c' k' hc' hk'=>?_⟩
  ·have:=hg.cash c' hc'
   simp only [add_dl,dl]
   by_cases e:c' = c
   ·subst e
    simp only [if_true,if_neg (show ¬ c' * 8 + 1 = c' * 8 by omega),if_neg (show ¬ c' * 8 + 1 = c' * 8 + 2 by omega),if_neg (show ¬ c' * 8 + 1 = c' * 8 + 3 by omega),if_neg (show ¬ c' * 8 + 1 = c' * 8 + 4 by omega),if_neg (show ¬ c' * 8 = c' * 8 + 2 by omega),if_neg (show ¬ c' * 8 = c' * 8 + 3 by omega),if_neg (show ¬ c' * 8 = c' * 8 + 4 by omega)]
    omega
   ·repeat rw [if_neg (by omega)]
    omega
  ·have hst:=hg.stock c' k' hc' hk'
   simp only [add_dl,dl]
   by_cases e:c' = c
   ·subst e
    have:k' = 0∨k' = 1∨k' = 2:=by omega
    rcases this with rfl | rfl | rfl
    all_goals
     repeat (first | rw [if_neg (by omega)] | rw [if_pos (by omega)])
     simp only [Nat.add_zero,Nat.add_assoc,Nat.reduceAdd] at hst ⊢
     omega
   ·repeat rw [if_neg (by omega)]
    omega
 ·exact hg
def tchk (item:Int) (b s:Cv.Lot) (price qty:Int):Nat :=
 if well item b = true∧well item s = true then
  if b.sd = 0∧s.sd = 1 then
   if (1≤price∧price≤1000)∧1≤qty∧qty≤b.q∧qty≤s.q then
    if s.pr≤price∧price≤b.pr then 0 else 11
   else 1
  else 2
 else 1
def six (f:Nat→Int) (b s item:Nat) (bp price qty:Int):Nat→Int :=
 add (add (add (add (add (add f (b * 8 + 1) (-(bp * qty))) (s * 8 + 5 + item) (-qty)) (b * 8) (-(price * qty))) (s * 8 + 2 + item) (-qty)) (b * 8 + 2 + item) qty) (s * 8) (price * qty)
def poor (f:Nat→Int) (b s item:Nat) (bp qty:Int):Bool:=decide (f (b * 8 + 1) < bp * qty) || decide (f (s * 8 + 5 + item) < qty)
def over (f:Nat→Int) (b s item:Nat) (price qty:Int):Bool:=decide (b≠s)&&(decide (1073741824 < f (b * 8 + 2 + item) + qty) || decide (1099511627776 < f (s * 8) + price * qty))
def tradeC (f:Nat→Int) (item:Int) (b s:Cv.Lot) (price qty:Int):Nat :=
 if tchk item b s price qty = 0 then
  if poor f b.ow.toNat s.ow.toNat item.toNat b.pr qty = true then 9
  else if over f b.ow.toNat s.ow.toNat item.toNat price qty = true then 7 else 0
 else tchk item b s price qty
def tradeF (f:Nat→Int) (item:Int) (b s:Cv.Lot) (price qty:Int):Nat→Int :=
 if tradeC f item b s price qty = 0 then six f b.ow.toNat s.ow.toNat item.toNat b.pr price qty else f
structure Right (item:Int) (b s:Cv.Lot) (price qty:Int):Prop where
 wb:well item b = true
 ws:well item s = true
 sb:b.sd = 0
 ss:s.sd = 1
 p:1≤price∧price≤1000
 q:1≤qty∧qty≤b.q∧qty≤s.q
 o:s.pr≤price∧price≤b.pr
theorem right_of {item:Int} {b s:Cv.Lot} {price qty:Int} (h:tchk item b s price qty = 0):Right item b s price qty:=by
 unfold tchk at h
 split at h
 ·rename_i h1
  split at h
  ·rename_i h2
   split at h
   ·rename_i h3
    split at h
    ·rename_i h4
     exact ⟨h1.1,h1.2,h2.1,h2.2,h3.1,h3.2,h4⟩
    ·exact absurd h (by decide)
   ·exact absurd h (by decide)
  ·exact absurd h (by decide)
 ·exact absurd h (by decide)
theorem Right.muls {item:Int} {b s:Cv.Lot} {price qty:Int} (h:Right item b s price qty):(1≤price * qty∧price * qty≤1000000)∧(1≤b.pr * qty∧b.pr * qty≤1000000)∧price * qty≤b.pr * qty∧qty≤1000:=by
 have h1:=Cv.ok_bounds (well_ok h.wb)
 have h2:=h.q
 have h3:=mul_bounds h.p.1 h.p.2 h2.1 (show qty≤1000 by omega)
 have h4:=mul_bounds h1.2.2.2.1.1 h1.2.2.2.1.2 h2.1 (show qty≤1000 by omega)
 have h5:=Int.mul_le_mul_of_nonneg_right h.o.2 (show 0≤qty by omega)
 omega
theorem six_dl (f:Nat→Int) (b s item:Nat) (bp price qty:Int) (j:Nat):six f b s item bp price qty j = f j + dl (b * 8 + 1) (-(bp * qty)) j + dl (s * 8 + 5 + item) (-qty) j + dl (b * 8) (-(price * qty)) j + dl (s * 8 + 2 + item) (-qty) j + dl (b * 8 + 2 + item) qty j + dl (s * 8) (price * qty) j:=by
 simp only [six,add_dl]
theorem dl_ne {i j:Nat} {v:Int} (h:j≠i):dl i v j = 0:=by simp [dl,h]
theorem dl_at {i:Nat} {v:Int}:dl i v i = v:=by simp [dl]
theorem good_six {f:Nat→Int} (hg:Good f) {b s k:Nat} {bp price qty:Int} (hb:b < 6) (hs:s < 6) (hk:k < 3) (hm:1≤price * qty∧price * qty≤bp * qty) (hq:1≤qty) (hp:poor f b s k bp qty = false) (ho:over f b s k price qty = false):Good (six f b s k bp price qty):=by
 simp only [poor,over,Bool.or_eq_false_iff,Bool.and_eq_false_iff,decide_eq_false_iff_not,Decidable.not_not] at hp ho
 refine ⟨fun c hc=>?_,fun c k' hc hk'=>?_⟩
 ·have h1:=hg.cash c hc
  have h2:=hg.cash b hb
  have h3:=hg.cash s hs
  rw [six_dl,six_dl]
  rw [dl_ne (i:=s * 8 + 5 + k) (by omega),dl_ne (i:=s * 8 + 5 + k) (by omega),dl_ne (i:=s * 8 + 2 + k) (by omega),dl_ne (i:=s * 8 + 2 + k) (by omega),dl_ne (i:=b * 8 + 2 + k) (by omega),dl_ne (i:=b * 8 + 2 + k) (by omega),dl_ne (i:=b * 8) (j:=c * 8 + 1) (by omega),dl_ne (i:=s * 8) (j:=c * 8 + 1) (by omega),dl_ne (i:=b * 8 + 1) (j:=c * 8) (by omega)]
  by_cases e1:c = b
  ·subst e1
   rw [dl_at,dl_at]
   by_cases e2:c = s
   ·subst e2;rw [dl_at];omega
   ·rw [dl_ne (by omega)];omega
  ·rw [dl_ne (i:=b * 8 + 1) (by omega),dl_ne (i:=b * 8) (by omega)]
   by_cases e2:c = s
   ·subst e2;rw [dl_at];omega
   ·rw [dl_ne (by omega)];omega
 ·have h1:=hg.stock c k' hc hk'
  have h2:=hg.stock b k hb hk
  have h3:=hg.stock s k hs hk
  rw [six_dl,six_dl]
  rw [dl_ne (i:=b * 8 + 1) (by omega),dl_ne (i:=b * 8 + 1) (by omega),dl_ne (i:=b * 8) (by omega),dl_ne (i:=b * 8) (by omega),dl_ne (i:=s * 8) (by omega),dl_ne (i:=s * 8) (by omega),dl_ne (i:=s * 8 + 2 + k) (j:=c * 8 + 5 + k') (by omega),dl_ne (i:=b * 8 + 2 + k) (j:=c * 8 + 5 + k') (by omega),dl_ne (i:=s * 8 + 5 + k) (j:=c * 8 + 2 + k') (by omega)]
  by_cases e0:k' = k
  ·subst e0
   by_cases e1:c = b
   ·subst e1
    rw [dl_at]
    by_cases e2:c = s
    ·subst e2;rw [dl_at,dl_at];omega
    ·rw [dl_ne (by omega),dl_ne (by omega)];omega
   ·rw [dl_ne (i:=b * 8 + 2 + k') (by omega)]
    by_cases e2:c = s
    ·subst e2;rw [dl_at,dl_at];omega
    ·rw [dl_ne (by omega),dl_ne (by omega)];omega
  ·rw [dl_ne (by omega),dl_ne (by omega),dl_ne (by omega)];omega
theorem trade_zero {f:Nat→Int} {item:Int} {b s:Cv.Lot} {price qty:Int} (h:tradeC f item b s price qty = 0):Right item b s price qty∧poor f b.ow.toNat s.ow.toNat item.toNat b.pr qty = false∧over f b.ow.toNat s.ow.toNat item.toNat price qty = false:=by
 unfold tradeC at h
 split at h
 ·rename_i h1
  split at h
  ·exact absurd h (by decide)
  ·rename_i h2
   split at h
   ·exact absurd h (by decide)
   ·rename_i h3
    exact ⟨right_of h1,by simpa using h2,by simpa using h3⟩
 ·rename_i h1;exact absurd h h1
theorem good_trade {f:Nat→Int} (hg:Good f) (item:Int) (b s:Cv.Lot) (price qty:Int):Good (tradeF f item b s price qty):=by
 unfold tradeF
 split
 ·rename_i h
  obtain ⟨hr,hp,ho⟩:=trade_zero h
  have hm:=hr.muls
  obtain ⟨k,hk,hk3⟩:=well_item hr.wb
  obtain ⟨c,hc,hc6⟩:=well_ow hr.wb
  obtain ⟨c',hc',hc6'⟩:=well_ow hr.ws
  exact good_six hg (by omega) (by omega) (by omega) ⟨hm.1.1,hm.2.2.1⟩ hr.q.1 hp ho
 ·exact hg
end Pu
namespace Pu
def g1 (f:Nat→Int) (b:Nat) (H:Int):Nat→Int:=add f (b * 8 + 1) (-H)
def g2 (f:Nat→Int) (b s k:Nat) (H Q:Int):Nat→Int:=add (g1 f b H) (s * 8 + 5 + k) (-Q)
def g3 (f:Nat→Int) (b s k:Nat) (H Q A:Int):Nat→Int:=add (g2 f b s k H Q) (b * 8) (-A)
def g4 (f:Nat→Int) (b s k:Nat) (H Q A:Int):Nat→Int:=add (g3 f b s k H Q A) (s * 8 + 2 + k) (-Q)
def g5 (f:Nat→Int) (b s k:Nat) (H Q A:Int):Nat→Int:=add (g4 f b s k H Q A) (b * 8 + 2 + k) Q
theorem g1_at {f:Nat→Int} {b s k:Nat} {H:Int}:g1 f b H (s * 8 + 5 + k) = f (s * 8 + 5 + k)∨¬ k < 3:=by
 by_cases h:k < 3
 ·exact .inl (add_ne _ _ (by omega))
 ·exact .inr h
theorem g1_kept {f:Nat→Int} {b s k:Nat} {H:Int} (hk:k < 3):g1 f b H (s * 8 + 5 + k) = f (s * 8 + 5 + k):=add_ne _ _ (by omega)
theorem g2_cash {f:Nat→Int} {b s k:Nat} {H Q:Int} (hk:k < 3):g2 f b s k H Q (b * 8) = f (b * 8):=by
 unfold g2 g1;rw [add_ne _ _ (by omega),add_ne _ _ (by omega)]
theorem g3_stock {f:Nat→Int} {b s k:Nat} {H Q A:Int} (hk:k < 3):g3 f b s k H Q A (s * 8 + 2 + k) = f (s * 8 + 2 + k):=by
 unfold g3 g2 g1;rw [add_ne _ _ (by omega),add_ne _ _ (by omega),add_ne _ _ (by omega)]
theorem g4_stock {f:Nat→Int} {b s k:Nat} {H Q A:Int} (hk:k < 3):g4 f b s k H Q A (b * 8 + 2 + k) = f (b * 8 + 2 + k) + (if b = s then -Q else 0):=by
 unfold g4
 by_cases e:b = s
 ·subst e;rw [add_at,g3_stock hk,if_pos rfl]
 ·unfold g3 g2 g1;rw [add_ne _ _ (by omega),add_ne _ _ (by omega),add_ne _ _ (by omega),add_ne _ _ (by omega),if_neg e];simp
theorem g5_cash {f:Nat→Int} {b s k:Nat} {H Q A:Int} (hk:k < 3):g5 f b s k H Q A (s * 8) = f (s * 8) + (if b = s then -A else 0):=by
 unfold g5 g4
 rw [add_ne _ _ (by omega),add_ne _ _ (by omega)]
 unfold g3
 by_cases e:b = s
 ·subst e;rw [add_at,g2_cash hk,if_pos rfl]
 ·unfold g2 g1;rw [add_ne _ _ (by omega),add_ne _ _ (by omega),add_ne _ _ (by omega),if_neg e];simp
theorem grows {f:Nat→Int} (hg:Good f) {b s k:Nat} {bp price qty:Int} (hb:b < 6) (hs:s < 6) (hk:k < 3) (hm:1≤price * qty∧price * qty≤bp * qty) (hq:1≤qty) (hp:poor f b s k bp qty = false) :
  (0≤g4 f b s k (bp * qty) qty (price * qty) (b * 8 + 2 + k)∧g4 f b s k (bp * qty) qty (price * qty) (b * 8 + 2 + k)≤1073741824)∧(0≤g5 f b s k (bp * qty) qty (price * qty) (s * 8)∧g5 f b s k (bp * qty) qty (price * qty) (s * 8)≤1099511627776) ∧
  over f b s k price qty = (decide (1073741824 - g4 f b s k (bp * qty) qty (price * qty) (b * 8 + 2 + k) < qty) || decide (1099511627776 - g5 f b s k (bp * qty) qty (price * qty) (s * 8) < price * qty)):=by
 rw [g4_stock hk,g5_cash hk]
 simp only [poor,Bool.or_eq_false_iff,decide_eq_false_iff_not] at hp
 have h1:=hg.cash b hb
 have h2:=hg.cash s hs
 have h3:=hg.stock b k hb hk
 have h4:=hg.stock s k hs hk
 unfold over
 by_cases e:b = s
 ·subst e
  simp only [if_true]
  refine ⟨by omega,by omega,?_⟩
  rw [show decide (b≠b) = false by simp,Bool.false_and]
  symm
  rw [Bool.or_eq_false_iff,decide_eq_false_iff_not,decide_eq_false_iff_not]
  omega
 ·rw [if_neg e,if_neg e]
  refine ⟨by omega,by omega,?_⟩
  rw [show decide (b≠s) = true by simpa using e,Bool.true_and]
  congr 1
  ·rw [decide_eq_decide];omega
  ·rw [decide_eq_decide];omega
def only (x:Cv.Lot) (q:Int):Cv.Lot:=⟨x.id,x.ow,x.sd,x.pr,q⟩
theorem only_well {item:Int} {x:Cv.Lot} {q:Int} (h:well item x = true) (h1:1≤q) (h2:q≤x.q):well item (only x q) = true:=by
 show (Wi.withinB item 0 2&&(Wi.withinB x.id 1 1073741824&&Wi.withinB x.ow 0 5&&Wi.withinB x.sd 0 1&&Wi.withinB x.pr 1 1000&&Wi.withinB q 1 1000)) = true
 simp only [well,Cv.ok,Wi.withinB,Bool.and_eq_true,decide_eq_true_eq] at h ⊢
 exact ⟨h.1,h.2.1,h1,Int.le_trans h2 h.2.2.2⟩
theorem free_buy {f:Nat→Int} {item:Int} {x:Cv.Lot} {q:Int} (h:well item x = true) (h1:1≤q) (h2:q≤x.q) (hs:x.sd = 0) :
  freeC f item (only x q) = (if f (x.ow.toNat * 8 + 1) < x.pr * q then 9 else 0)∧(¬ f (x.ow.toNat * 8 + 1) < x.pr * q→freeF f item (only x q) = g1 f x.ow.toNat (x.pr * q))∧(f (x.ow.toNat * 8 + 1) < x.pr * q→freeF f item (only x q) = f):=by
 have e1:hx item (only x q) = x.ow.toNat * 8 + 1:=by unfold hx;rw [if_pos (by exact hs)];rfl
 have e2:mu (only x q) = x.pr * q:=by unfold mu;rw [if_pos (by exact hs)];rfl
 have e3:freeC f item (only x q) = (if f (x.ow.toNat * 8 + 1) < x.pr * q then 9 else 0):=by unfold freeC;rw [if_pos (only_well h h1 h2),e1,e2]
 refine ⟨e3,fun hn=>?_,fun hn=>?_⟩
 ·unfold freeF;rw [e3,if_neg hn,if_pos rfl,e1,e2];rfl
 ·unfold freeF;rw [e3,if_pos hn];rfl
theorem free_sell {f:Nat→Int} {item:Int} {x:Cv.Lot} {q:Int} (h:well item x = true) (h1:1≤q) (h2:q≤x.q) (hs:x.sd = 1) :
  freeC f item (only x q) = (if f (x.ow.toNat * 8 + 5 + item.toNat) < q then 9 else 0)∧(¬ f (x.ow.toNat * 8 + 5 + item.toNat) < q→freeF f item (only x q) = add f (x.ow.toNat * 8 + 5 + item.toNat) (-q))∧(f (x.ow.toNat * 8 + 5 + item.toNat) < q→freeF f item (only x q) = f):=by
 have hs':¬ x.sd = 0:=by omega
 have e1:hx item (only x q) = x.ow.toNat * 8 + 5 + item.toNat:=by unfold hx;rw [if_neg (by exact hs')];rfl
 have e2:mu (only x q) = q:=by unfold mu;rw [if_neg (by exact hs')];rfl
 have e3:freeC f item (only x q) = (if f (x.ow.toNat * 8 + 5 + item.toNat) < q then 9 else 0):=by unfold freeC;rw [if_pos (only_well h h1 h2),e1,e2]
 refine ⟨e3,fun hn=>?_,fun hn=>?_⟩
 ·unfold freeF;rw [e3,if_neg hn,if_pos rfl,e1,e2]
 ·unfold freeF;rw [e3,if_pos hn];rfl
end Pu
namespace Cv
def size (n:Int):Int:=max n (-n)
def left (l:List Lot) (p:Int):Int:=size (demand l p - supply l p)
def away (ref p:Int):Int:=size (p - ref)
theorem size_nonneg (n:Int):0≤size n:=by unfold size;omega
def worthB (v s a v' s' a':Int):Bool:=if v = v' then (if s = s' then decide (a < a') else decide (s < s')) else decide (v' < v)
def Won (l:List Lot) (ref n p v:Int):Prop :=
 (p = 0∧v = 0∧∀ q,1≤q→q≤n→volume l q = 0) ∨
 (0 < v∧1≤p∧p≤n∧volume l p = v∧∀ q,1≤q→q≤n→volume l q < v∨volume l q = v∧(left l p < left l q∨left l p = left l q∧(away ref p < away ref q∨away ref p = away ref q∧p≤q)))
theorem Won.unique {l:List Lot} {ref n p v p' v':Int} (h:Won l ref n p v) (h':Won l ref n p' v'):p = p'∧v = v':=by
 rcases h with ⟨h1,h2,h3⟩ | ⟨h1,h2,h3,h4,h5⟩
 ·rcases h' with ⟨g1,g2,g3⟩ | ⟨g1,g2,g3,g4,g5⟩
  ·omega
  ·have:=h3 p' g2 g3;omega
 ·rcases h' with ⟨g1,g2,g3⟩ | ⟨g1,g2,g3,g4,g5⟩
  ·have:=g3 p h2 h3;omega
  ·have a:=h5 p' g2 g3
   have b:=g5 p h2 h3
   omega
theorem volume_nonneg (l:List Lot) (h:Oks l) (p:Int):0≤volume l p:=by
 have hd:=(sumIf_bounds (dB p) l h).1
 have hs:=(sumIf_bounds (sB p) l h).1
 unfold volume demand supply
 omega
def wl (l:List Lot) (p:Int):Int:=if p = 0 then 0 else left l p
def wa (ref p:Int):Int:=if p = 0 then 0 else away ref p
theorem Won.start (l:List Lot) (ref:Int):Won l ref 0 0 0:=.inl ⟨rfl,rfl,fun q h1 h2=>by omega⟩
theorem Won.take {l:List Lot} {ref n p v:Int} (hl:Oks l) (hn:0≤n) (h:Won l ref n p v) (hb:worthB (volume l (n + 1)) (left l (n + 1)) (away ref (n + 1)) v (wl l p) (wa ref p) = true):Won l ref (n + 1) (n + 1) (volume l (n + 1)):=by
 have v0:=volume_nonneg l hl (n + 1)
 have s0:0≤left l (n + 1):=size_nonneg _
 have a0:0≤away ref (n + 1):=size_nonneg _
 unfold worthB wl wa at hb
 rcases h with ⟨h1,h2,h3⟩ | ⟨h1,h2,h3,h4,h5⟩
 ·rw [if_pos h1,if_pos h1] at hb
  have hv:0 < volume l (n + 1):=by
   split at hb
   ·split at hb <;> simp only [decide_eq_true_eq] at hb <;> omega
   ·simp only [decide_eq_true_eq] at hb;omega
  refine .inr ⟨hv,by omega,by omega,rfl,fun q q1 q2=>?_⟩
  by_cases e:q = n + 1
  ·rw [e];omega
  ·have:=h3 q q1 (by omega);omega
 ·have hp:¬ p = 0:=by omega
  rw [if_neg hp,if_neg hp] at hb
  have key:v < volume l (n + 1)∨volume l (n + 1) = v∧(left l (n + 1) < left l p∨left l (n + 1) = left l p∧away ref (n + 1) < away ref p):=by
   split at hb
   ·split at hb <;> simp only [decide_eq_true_eq] at hb <;> omega
   ·simp only [decide_eq_true_eq] at hb;omega
  refine .inr ⟨by omega,by omega,by omega,rfl,fun q q1 q2=>?_⟩
  by_cases e:q = n + 1
  ·rw [e];omega
  ·have:=h5 q q1 (by omega);omega
theorem Won.keep {l:List Lot} {ref n p v:Int} (hl:Oks l) (h:Won l ref n p v) (hb:worthB (volume l (n + 1)) (left l (n + 1)) (away ref (n + 1)) v (wl l p) (wa ref p) = false):Won l ref (n + 1) p v:=by
 have v0:=volume_nonneg l hl (n + 1)
 unfold worthB wl wa at hb
 rcases h with ⟨h1,h2,h3⟩ | ⟨h1,h2,h3,h4,h5⟩
 ·refine .inl ⟨h1,h2,fun q q1 q2=>?_⟩
  by_cases e:q = n + 1
  ·rw [e]
   by_cases hv:volume l (n + 1) = v
   ·omega
   ·rw [if_neg hv] at hb;simp only [decide_eq_false_iff_not] at hb;omega
  ·exact h3 q q1 (by omega)
 ·have hp:¬ p = 0:=by omega
  rw [if_neg hp,if_neg hp] at hb
  refine .inr ⟨h1,h2,by omega,h4,fun q q1 q2=>?_⟩
  by_cases e:q = n + 1
  ·rw [e]
   split at hb
   ·split at hb <;> simp only [decide_eq_false_iff_not] at hb <;> omega
   ·simp only [decide_eq_false_iff_not] at hb;omega
  ·exact h5 q q1 (by omega)
theorem Won.range {l:List Lot} {ref n p v:Int} (h:Won l ref n p v) (hn:0≤n):0≤p∧p≤n∧0≤v:=by
 rcases h with ⟨h1,h2,h3⟩ | ⟨h1,h2,h3,h4,h5⟩ <;> omega
def atB (side p:Int) (x:Lot):Bool:=x.sd == side&&x.pr == p
def at_ (l:List Lot) (side p:Int):Int:=sumIf (atB side p) l
theorem demand_step (p:Int):∀ l:List Lot,demand l p = demand l (p + 1) + at_ l 0 p
 | []=>rfl
 | x :: l=>by
  have ih:=demand_step p l
  unfold demand at_ at ih ⊢
  simp only [sumIf]
  by_cases hs:x.sd = 0
  ·by_cases h1:x.pr = p
   ·have h2:p≤x.pr:=by omega
    have h3:¬ p + 1≤x.pr:=by omega
    have e:(x.pr == p) = true:=by simpa using h1
    simp only [dB,atB,hs,h2,h3,e,beq_self_eq_true,decide_true,decide_false,Bool.and_self,Bool.and_false,if_true,Bool.false_eq_true,if_false]
    omega
   ·by_cases h2:p≤x.pr
    ·have h3:p + 1≤x.pr:=by omega
     simp [dB,atB,hs,h1,h2,h3] at *
     omega
    ·have h3:¬ p + 1≤x.pr:=by omega
     simp [dB,atB,hs,h1,h2,h3] at *
     omega
  ·simp [dB,atB,hs] at *
   omega
theorem supply_step (p:Int):∀ l:List Lot,supply l (p + 1) = supply l p + at_ l 1 (p + 1)
 | []=>rfl
 | x :: l=>by
  have ih:=supply_step p l
  unfold supply at_ at ih ⊢
  simp only [sumIf]
  by_cases hs:x.sd = 1
  ·by_cases h1:x.pr = p + 1
   ·have h3:¬ x.pr≤p:=by omega
    have h2:x.pr≤p + 1:=by omega
    have e:(x.pr == p + 1) = true:=by simpa using h1
    simp only [sB,atB,hs,h2,h3,e,beq_self_eq_true,decide_true,decide_false,Bool.and_self,Bool.and_false,if_true,Bool.false_eq_true,if_false]
    omega
   ·by_cases h2:x.pr≤p
    ·have h3:x.pr≤p + 1:=by omega
     simp [sB,atB,hs,h1,h2,h3] at *
     omega
    ·have h3:¬ x.pr≤p + 1:=by omega
     simp [sB,atB,hs,h1,h2,h3] at *
     omega
  ·simp [sB,atB,hs] at *
   omega
theorem demand_top (l:List Lot) (h:Oks l) {p:Int} (hp:1000≤p):demand l (p + 1) = 0 :=
 sumIf_zero l fun x hx=>by
  have:=(ok_bounds (h x hx)).2.2.2.1
  have h2:¬ p + 1≤x.pr:=by omega
  simp [dB,h2]
theorem supply_low (l:List Lot) (h:Oks l) {p:Int} (hp:p≤0):supply l p = 0 :=
 sumIf_zero l fun x hx=>by
  have:=(ok_bounds (h x hx)).2.2.2.1
  have h2:¬ x.pr≤p:=by omega
  simp [sB,h2]
end Cv
namespace Bd
def bOk (r l:Int):Bool:=Wi.withinB r 1 1000&&Wi.withinB l 0 1000
def rOk (w h:Int):Bool:=Wi.withinB w 0 100&&Wi.withinB h 1 1000
def vOk (p v:Int):Bool:=!decide (v < 0)&&(!decide (0 < v) || Wi.withinB p 1 1000)
def inB (w r p:Int):Bool:=decide (Cv.size (p - r) * 100≤r * w)
def nR (r l w p v:Int):Int:=if 0 < l then (if l = 1∧0 < v then p else r) else if 0 < v∧inB w r p = true then p else r
def nL (r l w h p v:Int):Int:=if 0 < l then l - 1 else if 0 < v∧inB w r p = false then h else l
def nO (r l w p v:Int):Bool:=!decide (0 < l)&&(!decide (0 < v) || inB w r p)
end Bd
theorem prod_bounds {r w:Int} (h1:1≤r) (h2:r≤1000) (h3:0≤w) (h4:w≤100):0≤r * w∧r * w≤100000:=by
 refine ⟨Int.mul_nonneg (by omega) h3,?_⟩
 have a:=Int.mul_le_mul_of_nonneg_right h2 h3
 omega
namespace Fu
open Cv Bk Ra
def remF (c:Int→Int) (x:Lot):Option Lot:=if c x.id < x.q then some (less x (c x.id)) else none
def rem (c:Int→Int) (l:List Lot):List Lot:=l.filterMap (remF c)
def takF (id q:Int) (x:Lot):Option Lot:=if x.id = id then (if q < x.q then some (less x q) else none) else some x
def more (c:Int→Int) (id q:Int) (j:Int):Int:=if j = id then c j + q else c j
theorem rem_zero {l:List Lot} (h:Oks l):rem (fun _=>0) l = l:=by
 unfold rem
 induction l with
 | nil=>rfl
 | cons x l ih =>
  have hx:=ok_bounds (h x (List.mem_cons_self ..))
  rw [List.filterMap_cons]
  have:remF (fun _=>0) x = some x:=by unfold remF less;rw [if_pos (by show (0:Int) < x.q;omega)];simp
  rw [this]
  simp only []
  rw [ih (fun y hy=>h y (List.mem_cons_of_mem _ hy))]
theorem tak_none {l:List Lot} {id q:Int} (h:∀ x∈l,x.id≠id):l.filterMap (takF id q) = l:=by
 induction l with
 | nil=>rfl
 | cons x l ih =>
  rw [List.filterMap_cons]
  have:takF id q x = some x:=by unfold takF;rw [if_neg (h x (List.mem_cons_self ..))]
  rw [this]
  simp only []
  rw [ih (fun y hy=>h y (List.mem_cons_of_mem _ hy))]
theorem once_split {l:List Lot} (ho:Once l) {k:Nat} (hk:k < l.length):(∀ x∈l.take k,x.id≠(nth l k).id)∧∀ x∈l.drop (k + 1),x.id≠(nth l k).id:=by
 have e:=split_at hk
 have ho':(l.map (·.id)).Nodup:=ho
 have h1:((l.take k++nth l k :: l.drop (k + 1)).map (·.id)).Nodup:=by rw [← e];exact ho'
 rw [List.map_append,List.map_cons,List.nodup_append] at h1
 obtain ⟨_,h2,h3⟩:=h1
 rw [List.nodup_cons] at h2
 refine ⟨fun x hx hxe=>?_,fun x hx hxe=>?_⟩
 ·exact h3 x.id (List.mem_map_of_mem hx) (nth l k).id (List.mem_cons_self ..) hxe
 ·exact h2.1 (by rw [← hxe];exact List.mem_map_of_mem hx)
theorem takL_eq {l:List Lot} (ho:Once l) {id q:Int} (hh:has l id = true) (h1:1≤q) (h2:q≤(nth l (pos l id)).q):takL l id q = l.filterMap (takF id q):=by
 have hk:=pos_has.1 hh
 have hid:=pos_id hk
 obtain ⟨ha,hb⟩:=once_split ho hk
 rw [hid] at ha hb
 have hC:takC l id q = 0:=by unfold takC;rw [if_pos hh,if_pos (by simp [Wi.withinB,h1,h2])]
 have e:l.filterMap (takF id q) = (l.take (pos l id)++nth l (pos l id) :: l.drop (pos l id + 1)).filterMap (takF id q):=congrArg _ (split_at hk)
 rw [e,List.filterMap_append,List.filterMap_cons,tak_none ha,tak_none hb]
 unfold takL
 rw [if_pos hC]
 by_cases hq:q = (nth l (pos l id)).q
 ·rw [if_pos hq]
  have:takF id q (nth l (pos l id)) = none:=by unfold takF;rw [if_pos hid,if_neg (by omega)]
  rw [this]
  rfl
 ·rw [if_neg hq]
  have:takF id q (nth l (pos l id)) = some (less (nth l (pos l id)) q):=by unfold takF;rw [if_pos hid,if_pos (by omega)]
  rw [this]
  rfl
theorem rem_tak (c:Int→Int) (l:List Lot) (id q:Int) (hq:1≤q):(rem c l).filterMap (takF id q) = rem (more c id q) l:=by
 unfold rem
 rw [List.filterMap_filterMap]
 congr 1
 funext x
 unfold remF takF more
 by_cases h:c x.id < x.q
 ·rw [if_pos h]
  simp only [Option.bind_some,less]
  by_cases hi:x.id = id
  ·rw [if_pos hi,if_pos hi]
   by_cases h2:q < x.q - c x.id
   ·rw [if_pos h2,if_pos (by omega)]
    simp;omega
   ·rw [if_neg h2,if_neg (by omega)]
  ·rw [if_neg hi,if_neg hi,if_pos h]
 ·rw [if_neg h]
  simp only [Option.bind_none]
  by_cases hi:x.id = id
  ·rw [if_pos hi,if_neg (by omega)]
  ·rw [if_neg hi,if_neg h]
theorem rem_mem {c:Int→Int} {l:List Lot} {y:Lot}:y∈rem c l↔∃ x∈l,c x.id < x.q∧y = less x (c x.id):=by
 unfold rem
 rw [List.mem_filterMap]
 constructor
 ·rintro ⟨x,hx,h⟩
  unfold remF at h
  split at h
  ·rename_i hc
   exact ⟨x,hx,hc,(Option.some.inj h).symm⟩
  ·cases h
 ·rintro ⟨x,hx,hc,rfl⟩
  exact ⟨x,hx,by unfold remF;rw [if_pos hc]⟩
theorem rem_has {c:Int→Int} {l:List Lot} {id:Int}:has (rem c l) id = true↔∃ x∈l,x.id = id∧c id < x.q:=by
 unfold has
 rw [List.any_eq_true]
 constructor
 ·rintro ⟨y,hy,he⟩
  obtain ⟨x,hx,hc,rfl⟩:=rem_mem.1 hy
  have:x.id = id:=by simpa [less] using he
  exact ⟨x,hx,this,by rw [← this];exact hc⟩
 ·rintro ⟨x,hx,he,hc⟩
  exact ⟨less x (c x.id),rem_mem.2 ⟨x,hx,by rw [he];exact hc,rfl⟩,by simp [less,he]⟩
theorem rem_once {c:Int→Int} {l:List Lot} (ho:Once l):Once (rem c l):=by
 unfold Once at *
 refine List.Nodup.sublist ?_ ho
 unfold rem
 induction l with
 | nil=>exact List.Sublist.refl _
 | cons x l ih =>
  have ih':=ih (by simp only [List.map_cons,List.nodup_cons] at ho;exact ho.2)
  rw [List.filterMap_cons]
  by_cases h:c x.id < x.q
  ·have:remF c x = some (less x (c x.id)):=by unfold remF;rw [if_pos h]
   rw [this]
   exact List.Sublist.cons_cons _ ih'
  ·have:remF c x = none:=by unfold remF;rw [if_neg h]
   rw [this]
   exact List.Sublist.cons _ ih'
theorem rem_nth {c:Int→Int} {l:List Lot} (ho:Once l) {x:Lot} (hx:x∈l) (hc:c x.id < x.q):nth (rem c l) (pos (rem c l) x.id) = less x (c x.id):=by
 have hh:has (rem c l) x.id = true:=rem_has.2 ⟨x,hx,rfl,hc⟩
 have hk:=pos_has.1 hh
 have hm:nth (rem c l) (pos (rem c l) x.id)∈rem c l:=by rw [nth_get hk];exact List.getElem_mem hk
 obtain ⟨y,hy,_,he⟩:=rem_mem.1 hm
 have hid:=pos_id hk
 rw [he] at hid ⊢
 have:y.id = x.id:=by simpa [less] using hid
 have hxy:y = x:=by
  have ho':(l.map (·.id)).Nodup:=ho
  obtain ⟨i,hi,rfl⟩:=List.mem_iff_getElem.1 hy
  obtain ⟨j,hj,rfl⟩:=List.mem_iff_getElem.1 hx
  have hp:=List.pairwise_iff_getElem.1 ho'
  rcases Nat.lt_trichotomy i j with h | h | h
  ·exact absurd (by rw [List.getElem_map,List.getElem_map];exact this) (hp i j (by simpa using hi) (by simpa using hj) h)
  ·subst h;rfl
  ·exact absurd (by rw [List.getElem_map,List.getElem_map];exact this.symm) (hp j i (by simpa using hj) (by simpa using hi) h)
 rw [hxy]
theorem takL_rem {c:Int→Int} {l:List Lot} (ho:Once l) {x:Lot} (hx:x∈l) {q:Int} (h1:1≤q) (h2:c x.id + q≤x.q):takL (rem c l) x.id q = rem (more c x.id q) l:=by
 have hc:c x.id < x.q:=by omega
 rw [takL_eq (rem_once ho) (rem_has.2 ⟨x,hx,rfl,hc⟩) h1 (by rw [rem_nth ho hx hc];simp only [less];omega),rem_tak c l _ q h1]
end Fu
namespace Pu
theorem dl_add (i:Nat) (a b:Int) (j:Nat):dl i (a + b) j = dl i a j + dl i b j:=by
 unfold dl;split <;> omega
end Pu
namespace Pu
def cashes (f:Nat→Int):Nat→Int
 | 0=>0
 | m + 1=>cashes f m + f (m * 8)
def stocks (f:Nat→Int) (j:Nat):Nat→Int
 | 0=>0
 | m + 1=>stocks f j m + f (m * 8 + 2 + j)
theorem cashes_other {f:Nat→Int} {i:Nat} {v:Int} (h:∀ c,i≠c * 8) (m:Nat):cashes (add f i v) m = cashes f m:=by
 induction m with
 | zero=>rfl
 | succ m ih=>simp only [cashes,ih];rw [add_ne _ _ (fun e=>h m e.symm)]
theorem cashes_at {f:Nat→Int} {c:Nat} {v:Int} (m:Nat):cashes (add f (c * 8) v) m = cashes f m + if c < m then v else 0:=by
 induction m with
 | zero=>simp [cashes]
 | succ m ih =>
  simp only [cashes,ih]
  by_cases e:c = m
  ·subst e;rw [add_at,if_neg (by omega),if_pos (by omega)];omega
  ·rw [add_ne _ _ (by omega)]
   by_cases h:c < m
   ·rw [if_pos h,if_pos (by omega)];omega
   ·rw [if_neg h,if_neg (by omega)];omega
theorem stocks_other {f:Nat→Int} {i j:Nat} {v:Int} (h:∀ c,i≠c * 8 + 2 + j) (m:Nat):stocks (add f i v) j m = stocks f j m:=by
 induction m with
 | zero=>rfl
 | succ m ih=>simp only [stocks,ih];rw [add_ne _ _ (fun e=>h m e.symm)]
theorem stocks_at {f:Nat→Int} {c k j:Nat} {v:Int} (hk:k < 3) (hj:j < 3) (m:Nat):stocks (add f (c * 8 + 2 + k) v) j m = stocks f j m + if c < m∧k = j then v else 0:=by
 induction m with
 | zero=>simp [stocks]
 | succ m ih =>
  simp only [stocks,ih]
  by_cases e:c = m∧k = j
  ·obtain ⟨rfl,rfl⟩:=e;rw [add_at,if_neg (by omega),if_pos (by omega)];omega
  ·rw [add_ne _ _ (by omega)]
   by_cases h:c < m∧k = j
   ·rw [if_pos h,if_pos (by omega)];omega
   ·rw [if_neg h,if_neg (by omega)];omega
theorem hx_not {item:Int} {x:Cv.Lot} (h:well item x = true):(∀ c,hx item x≠c * 8)∧∀ c j,j < 3→hx item x≠c * 8 + 2 + j:=by
 rcases places h with ⟨c,c1,e1,e2⟩ | ⟨c,k,c1,k1,e1,e2⟩
 ·rw [e1];exact ⟨fun d=>by omega,fun d j hj=>by omega⟩
 ·rw [e1];exact ⟨fun d=>by omega,fun d j hj=>by omega⟩
theorem hold_sums (f:Nat→Int) (item:Int) (x:Cv.Lot) (m:Nat):cashes (holdF f item x) m = cashes f m∧∀ j,j < 3→stocks (holdF f item x) j m = stocks f j m:=by
 unfold holdF
 split
 ·rename_i h
  have hw:=hx_not (hold_zero h).1
  exact ⟨cashes_other hw.1 m,fun j hj=>stocks_other (fun c=>hw.2 c j hj) m⟩
 ·exact ⟨rfl,fun _ _=>rfl⟩
theorem free_sums (f:Nat→Int) (item:Int) (x:Cv.Lot) (m:Nat):cashes (freeF f item x) m = cashes f m∧∀ j,j < 3→stocks (freeF f item x) j m = stocks f j m:=by
 unfold freeF
 split
 ·rename_i h
  have hw:=hx_not (free_zero h).1
  exact ⟨cashes_other hw.1 m,fun j hj=>stocks_other (fun c=>hw.2 c j hj) m⟩
 ·exact ⟨rfl,fun _ _=>rfl⟩
def Gift.part (g:Gift):Nat→Int
 | 0=>g.s0
 | 1=>g.s1
 | _=>g.s2
theorem give_sums {f:Nat→Int} {g:Gift} (h:giveC f g = 0):cashes (giveF f g) 6 = cashes f 6 + g.cash∧∀ j,j < 3→stocks (giveF f g) j 6 = stocks f j 6 + g.part j:=by
 obtain ⟨⟨c,hc,c6,_⟩,_⟩:=give_zero h
 unfold giveF
 rw [if_pos h,hc,Int.toNat_natCast]
 refine ⟨?_,fun j hj=>?_⟩
 ·rw [cashes_other (fun d=>by omega),cashes_other (fun d=>by omega),cashes_other (fun d=>by omega),cashes_at,if_pos c6]
 ·have e0:c * 8 + 2 = c * 8 + 2 + 0:=rfl
  have e1:c * 8 + 3 = c * 8 + 2 + 1:=rfl
  have e2:c * 8 + 4 = c * 8 + 2 + 2:=rfl
  rw [e2,stocks_at (by decide) hj,e1,stocks_at (by decide) hj,e0,stocks_at (by decide) hj,stocks_other (fun d=>by omega)]
  have:j = 0∨j = 1∨j = 2:=by omega
  rcases this with rfl | rfl | rfl
  ·simp [c6,Gift.part]
  ·simp [c6,Gift.part]
  ·simp [c6,Gift.part]
theorem trade_sums (f:Nat→Int) (item:Int) (b s:Cv.Lot) (price qty:Int):cashes (tradeF f item b s price qty) 6 = cashes f 6∧∀ j,j < 3→stocks (tradeF f item b s price qty) j 6 = stocks f j 6:=by
 unfold tradeF
 split
 ·rename_i h
  obtain ⟨hr,_,_⟩:=trade_zero h
  obtain ⟨k,hk,hk3⟩:=well_item hr.wb
  obtain ⟨c,hc,hc6⟩:=well_ow hr.wb
  obtain ⟨c',hc',hc6'⟩:=well_ow hr.ws
  rw [hk,hc,hc',Int.toNat_natCast,Int.toNat_natCast,Int.toNat_natCast]
  unfold six
  refine ⟨?_,fun j hj=>?_⟩
  ·rw [cashes_at,if_pos hc6',cashes_other (fun d=>by omega),cashes_other (fun d=>by omega),cashes_at,if_pos hc6,cashes_other (fun d=>by omega),cashes_other (fun d=>by omega)]
   omega
  ·rw [stocks_other (fun d=>by omega),stocks_at hk3 hj,stocks_at hk3 hj,stocks_other (fun d=>by omega),stocks_other (fun d=>by omega),stocks_other (fun d=>by omega)]
   by_cases e:k = j
   ·rw [if_pos ⟨hc6',e⟩,if_pos ⟨hc6,e⟩];omega
   ·rw [if_neg (fun h=>e h.2),if_neg (fun h=>e h.2)];omega
 ·exact ⟨rfl,fun _ _=>rfl⟩
end Pu
namespace Cv
def Most (l:List Lot) (n m:Int):Prop:=0≤m∧(∀ q,1≤q→q≤n→volume l q≤m)∧(m = 0∨∃ q,1≤q∧q≤n∧volume l q = m)
def Least (l:List Lot) (m n s:Int):Prop :=
 (s = -1∧∀ q,1≤q→q≤n→volume l q≠m)∨(0≤s∧(∃ q,1≤q∧q≤n∧volume l q = m∧left l q = s)∧∀ q,1≤q→q≤n→volume l q = m→s≤left l q)
def Near (l:List Lot) (m s ref n b:Int):Prop :=
 (b = 0∧∀ q,n < q→q≤1000→¬ (volume l q = m∧left l q = s)) ∨
 (n < b∧b≤1000∧volume l b = m∧left l b = s∧∀ q,n < q→q≤1000→volume l q = m→left l q = s→away ref b < away ref q∨away ref b = away ref q∧b≤q)
theorem Most.take {l:List Lot} {n m:Int} (hn:0≤n) (h:Most l n m) (hv:m < volume l (n + 1)):Most l (n + 1) (volume l (n + 1)):=by
 obtain ⟨h1,h2,h3⟩:=h
 refine ⟨by omega,fun q q1 q2=>?_,.inr ⟨n + 1,by omega,by omega,rfl⟩⟩
 by_cases e:q = n + 1
 ·rw [e];omega
 ·have:=h2 q q1 (by omega);omega
theorem Least.range {l:List Lot} {m n s:Int} (h:Least l m n s):-1≤s:=by
 rcases h with ⟨h1,_⟩ | ⟨h1,_⟩ <;> omega
theorem Least.take {l:List Lot} {m n s:Int} (hn:0≤n) (h:Least l m n s) (hv:volume l (n + 1) = m) (hs:s < 0∨left l (n + 1) < s):Least l m (n + 1) (left l (n + 1)):=by
 have s0:0≤left l (n + 1):=size_nonneg _
 refine .inr ⟨s0,⟨n + 1,by omega,by omega,hv,rfl⟩,fun q q1 q2 q3=>?_⟩
 by_cases e:q = n + 1
 ·rw [e];omega
 ·rcases h with ⟨h1,h2⟩ | ⟨h1,h2,h3⟩
  ·exact absurd q3 (h2 q q1 (by omega))
  ·have:=h3 q q1 (by omega) q3;omega
theorem Near.range {l:List Lot} {m s ref n b:Int} (hn:0≤n) (h:Near l m s ref n b):0≤b∧b≤1000:=by
 rcases h with ⟨h1,_⟩ | ⟨h1,h2,_⟩ <;> omega
theorem Near.take {l:List Lot} {m s ref n b:Int} (h0:0≤n) (hn:n≤1000) (h:Near l m s ref n b) (hv:volume l n = m) (hs:left l n = s) (ha:b = 0∨away ref n≤away ref b):Near l m s ref (n - 1) n:=by
 refine .inr ⟨by omega,hn,hv,hs,fun q q1 q2 q3 q4=>?_⟩
 by_cases e:q = n
 ·rw [e];omega
 ·rcases h with ⟨h1,h2⟩ | ⟨h1,h2,h3,h4,h5⟩
  ·exact absurd ⟨q3,q4⟩ (h2 q (by omega) q2)
  ·have:=h5 q (by omega) q2 q3 q4;omega
end Cv
namespace Tp
def at1 (l:List UInt8) (i:Nat):Nat:=(l.getD i 0).toNat
def hi4 (l:List UInt8) (i:Nat):Nat:=16777216 * at1 l i + 65536 * at1 l (i + 1) + 256 * at1 l (i + 2) + at1 l (i + 3)
def lo4 (l:List UInt8) (i:Nat):Nat:=at1 l i + 256 * at1 l (i + 1) + 65536 * at1 l (i + 2) + 16777216 * at1 l (i + 3)
def four (n:Nat):List UInt8:=[UInt8.ofNat (n / 16777216),UInt8.ofNat (n / 65536),UInt8.ofNat (n / 256),UInt8.ofNat n]
def low (n:Nat):List UInt8:=[UInt8.ofNat n,UInt8.ofNat (n / 256),UInt8.ofNat (n / 65536),UInt8.ofNat (n / 16777216)]
def rec (s:List UInt8):List UInt8:=four s.length++four (4294967295 - s.length)++s++low (Wi.sum s)
def first (l:List UInt8):Option (List UInt8) :=
 if l.length < 8 then none
 else if hi4 l 4≠4294967295 - hi4 l 0 then none
 else if 10000 < hi4 l 0 then none
 else if l.length - 8 < hi4 l 0 + 4 then none
 else if lo4 l (8 + hi4 l 0)≠Wi.sum ((l.drop 8).take (hi4 l 0)) then none
 else some ((l.drop 8).take (hi4 l 0))
theorem rec_length (s:List UInt8):(rec s).length = 12 + s.length:=by simp [rec,four,low];omega
end Tp
namespace Wi
theorem half_xor (a b:Nat):(a ^^^ b) / 2 = a / 2 ^^^ b / 2:=Nat.xor_div_two
theorem odd_xor (a b:Nat):(a ^^^ b) % 2 = (a % 2) ^^^ (b % 2):=by
 have:=Nat.xor_mod_two_pow (a:=a) (b:=b) (n:=1)
 simpa using this
theorem bit_xor (a b:Nat):bit (a ^^^ b) = bit a ^^^ bit b:=by
 have ho:=odd_xor a b
 have hh:=half_xor a b
 unfold bit
 rw [hh]
 rcases Nat.mod_two_eq_zero_or_one a with h1 | h1 <;> rcases Nat.mod_two_eq_zero_or_one b with h2 | h2 <;> rw [h1,h2] at ho <;> simp at ho <;> simp [h1,h2,ho]
 ·rw [Nat.xor_assoc]
 ·rw [Nat.xor_assoc,Nat.xor_assoc,Nat.xor_comm (b / 2)]
 ·rw [← Nat.xor_assoc,Nat.xor_assoc (a / 2),Nat.xor_comm 3988292384,← Nat.xor_assoc,Nat.xor_assoc,Nat.xor_self,Nat.xor_zero]
theorem bit_two (x:Nat):bit (2 * x) = x:=by unfold bit;simp
def runN:Nat→Nat→Nat→Nat
 | 0,_,r=>r
 | n + 1,N,r=>runN n (N / 2) (bit (r ^^^ N % 2))
theorem runN_bits:∀ (n N r:Nat),N < 2 ^ n→runN n N r = bits n (r ^^^ N)
 | 0,N,r,h=>by
  have:N = 0:=by simpa using h
  subst this;simp [runN,bits]
 | n + 1,N,r,h=>by
  show runN n (N / 2) (bit (r ^^^ N % 2)) = bits n (bit (r ^^^ N))
  rw [runN_bits n (N / 2) _ (by rw [Nat.pow_succ] at h;omega)]
  congr 1
  have e:r ^^^ N = (r ^^^ N % 2) ^^^ (2 * (N / 2)):=by
   have hN:N = (N % 2) ^^^ (2 * (N / 2)):=by
    apply Nat.eq_of_testBit_eq
    intro i
    rw [Nat.testBit_xor]
    cases i with
    | zero =>
     have:(2 * (N / 2)).testBit 0 = false:=by simp
     rw [this]
     simp
    | succ i =>
     have h1:(N % 2).testBit (i + 1) = false:=by
      apply Nat.testBit_lt_two_pow
      have:=Nat.mod_lt N (show 0 < 2 by decide)
      have h2:2≤2 ^ (i + 1):=by rw [Nat.pow_succ];have:=Nat.two_pow_pos i;omega
      omega
     rw [h1,Nat.testBit_succ,Nat.testBit_succ]
     simp
   conv=>lhs;rw [hN]
   rw [Nat.xor_assoc]
  rw [e,bit_xor (r ^^^ N % 2) (2 * (N / 2)),bit_two]
def low4 (l:List UInt8) (i:Nat):Nat:=(l.getD i 0).toNat + 256 * (l.getD (i + 1) 0).toNat + 65536 * (l.getD (i + 2) 0).toNat + 16777216 * (l.getD (i + 3) 0).toNat
end Wi
end Go.Proofs.YtidahfhingdlmaaGreatDoor
