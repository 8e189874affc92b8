/- A request, in numbers and as a value. -/
import Derived.Test.YtidahfhingdlmaaGreatDoorRows
import Derived.Test.YtidahfhingdlmaaGreatDoorT02
import Derived.WalkKit
namespace Go.Proofs.YtidahfhingdlmaaGreatDoor
open Go.RowKit
structure Ask where
 k:Int
 c:Int
 sq:Int
 it:Int
 sd:Int
 pr:Int
 q:Int
 id:Int
deriving DecidableEq
def askA (a:Ask):Array Value:=#[.int .u8 a.k,.int .i64 a.c,.int .i64 a.sq,.int .i64 a.it,.int .i64 a.sd,.int .i64 a.pr,.int .i64 a.q,.int .i64 a.id]
def askV (a:Ask):Value:=.agg (askA a)
end Go.Proofs.YtidahfhingdlmaaGreatDoor
namespace Go.Proofs.YtidahfhingdlmaaGreatDoor
def upd {α:Type} (f:Nat→α) (i:Nat) (x:α) (j:Nat):α:=if j = i then x else f j
theorem upd_same {α:Type} (f:Nat→α) (i:Nat) (x:α):upd f i x i = x:=by simp [upd]
theorem upd_ne {α:Type} (f:Nat→α) {i j:Nat} (x:α) (h:j≠i):upd f i x j = f j:=by simp [upd,h]
namespace Fu
open Cv Bk Pu
def sumBy (g:Lot→Int):List Lot→Int
 | []=>0
 | x :: l=>g x + sumBy g l
theorem sumBy_append (g:Lot→Int):∀ a b:List Lot,sumBy g (a++b) = sumBy g a + sumBy g b
 | [],b=>by simp [sumBy]
 | x :: a,b=>by rw [List.cons_append,sumBy,sumBy,sumBy_append g a b];omega
theorem sumBy_del (g:Lot→Int) {l:List Lot} {k:Nat} (hk:k < l.length):sumBy g (del l k) = sumBy g l - g (nth l k):=by
 have e:sumBy g l = sumBy g (l.take k++nth l k :: l.drop (k + 1)):=congrArg _ (split_at hk)
 rw [e]
 unfold del
 rw [sumBy_append,sumBy_append,sumBy]
 omega
theorem sumBy_ge {g:Lot→Int}:∀ {l:List Lot},(∀ x∈l,0≤g x)→0≤sumBy g l∧∀ x∈l,g x≤sumBy g l
 | [],_=>⟨by simp [sumBy],fun x hx=>by cases hx⟩
 | y :: l,h=>by
  obtain ⟨h1,h2⟩:=sumBy_ge (l:=l) (fun x hx=>h x (List.mem_cons_of_mem _ hx))
  have hy:=h y (List.mem_cons_self ..)
  rw [sumBy]
  refine ⟨by omega,fun x hx=>?_⟩
  rcases List.mem_cons.1 hx with rfl | hx
  ·omega
  ·have:=h2 x hx;omega
def ask1 (i j:Nat) (x:Lot):Int:=dl (hx i x) (mu x) j
def asked (L:Nat→List Lot) (j:Nat):Int:=sumBy (ask1 0 j) (L 0) + sumBy (ask1 1 j) (L 1) + sumBy (ask1 2 j) (L 2)
theorem asked_upd (L:Nat→List Lot) {i:Nat} (hi:i < 3) (l:List Lot) (j:Nat):asked (upd L i l) j = asked L j - sumBy (ask1 i j) (L i) + sumBy (ask1 i j) l:=by
 have:i = 0∨i = 1∨i = 2:=by omega
 unfold asked
 rcases this with rfl | rfl | rfl
 ·rw [upd_same,upd_ne L l (show 1≠0 by decide),upd_ne L l (show 2≠0 by decide)];omega
 ·rw [upd_same,upd_ne L l (show 0≠1 by decide),upd_ne L l (show 2≠1 by decide)];omega
 ·rw [upd_same,upd_ne L l (show 0≠2 by decide),upd_ne L l (show 1≠2 by decide)];omega
def IsHeld (j:Nat):Prop:=∃ c,c < 6∧(j = c * 8 + 1∨∃ k,k < 3∧j = c * 8 + 5 + k)
def Held (L:Nat→List Lot) (f:Nat→Int):Prop:=∀ j,IsHeld j→f j = asked L j
theorem held_start (f:Nat→Int) (h:∀ j,IsHeld j→f j = 0):Held (fun _=>[]) f:=fun j hj=>by rw [h j hj];rfl
theorem held_place {L:Nat→List Lot} {f:Nat→Int} (h:Held L f) {i:Nat} (hi:i < 3) (x:Lot):Held (upd L i (L i++[x])) (Pu.add f (hx i x) (mu x)):=fun j hj=>by
 rw [add_dl,h j hj,asked_upd L hi,sumBy_append,sumBy,sumBy]
 unfold ask1
 omega
theorem held_cancel {L:Nat→List Lot} {f:Nat→Int} (h:Held L f) {i:Nat} (hi:i < 3) {k:Nat} (hk:k < (L i).length):Held (upd L i (del (L i) k)) (Pu.add f (hx i (nth (L i) k)) (-(mu (nth (L i) k)))):=fun j hj=>by
 rw [add_dl,h j hj,asked_upd L hi,sumBy_del _ hk]
 unfold ask1
 have:dl (hx i (nth (L i) k)) (-(mu (nth (L i) k))) j = -(dl (hx i (nth (L i) k)) (mu (nth (L i) k)) j):=by unfold dl;split <;> omega
 rw [this]
 omega
theorem isHeld_hx {i:Nat} {x:Lot} (h:well i x = true):IsHeld (hx i x):=by
 rcases places h with ⟨c,h1,h2,_⟩ | ⟨c,k,h1,h4,h2,_⟩
 ·exact ⟨c,h1,.inl h2⟩
 ·exact ⟨c,h1,.inr ⟨k,h4,h2⟩⟩
theorem well_of {i:Nat} (hi:i < 3) {x:Lot} (h:ok x = true):well i x = true:=by
 unfold well
 rw [h]
 simp [Wi.withinB]
 omega
theorem held_ge {L:Nat→List Lot} {f:Nat→Int} (h:Held L f) (hok:∀ j,j < 3→Oks (L j)) {i:Nat} (hi:i < 3) {x:Lot} (hx':x∈L i):mu x≤f (hx i x):=by
 have hw:=well_of hi (hok i hi x hx')
 rw [h _ (isHeld_hx hw)]
 have nn:∀ k,k < 3→∀ y∈L k,0≤ask1 k (hx i x) y:=fun k hk y hy=>by
  have:=mu_bounds (hok k hk y hy)
  unfold ask1 dl
  split <;> omega
 have h0:=(sumBy_ge (nn 0 (by decide))).1
 have h1:=(sumBy_ge (nn 1 (by decide))).1
 have h2:=(sumBy_ge (nn 2 (by decide))).1
 have hm:ask1 i (hx i x) x = mu x:=by unfold ask1;exact dl_at
 have hx2:=(sumBy_ge (nn i hi)).2 x hx'
 rw [hm] at hx2
 have:i = 0∨i = 1∨i = 2:=by omega
 unfold asked
 rcases this with rfl | rfl | rfl <;> omega
def per (x:Lot):Int:=if x.sd = 0 then x.pr else 1
theorem mu_per (x:Lot):mu x = per x * x.q:=by unfold mu per;split <;> omega
end Fu
namespace Fs
open Cv Bk Ra Pu Fu
def eff (i:Nat) (price:Int) (j:Nat) (x:Lot) (q:Int):Int :=
 if x.sd = 0 then dl (x.ow.toNat * 8) (-(price * q)) j + dl (x.ow.toNat * 8 + 1) (-(x.pr * q)) j + dl (x.ow.toNat * 8 + 2 + i) q j
 else dl (x.ow.toNat * 8) (price * q) j + dl (x.ow.toNat * 8 + 2 + i) (-q) j + dl (x.ow.toNat * 8 + 5 + i) (-q) j
theorem eff_add (i:Nat) (price:Int) (j:Nat) (x:Lot) (a b:Int):eff i price j x (a + b) = eff i price j x a + eff i price j x b:=by
 unfold eff
 rw [show -(price * (a + b)) = -(price * a) + -(price * b) by rw [Int.mul_add];omega,show -(x.pr * (a + b)) = -(x.pr * a) + -(x.pr * b) by rw [Int.mul_add];omega,show -(a + b) = -a + -b by omega,show price * (a + b) = price * a + price * b from Int.mul_add ..]
 simp only [dl_add]
 split <;> omega
theorem eff_zero (i:Nat) (price:Int) (j:Nat) (x:Lot):eff i price j x 0 = 0:=by
 unfold eff;simp [dl]
theorem six_eff (f:Nat→Int) (i:Nat) (price:Int) {x y:Lot} (hx:x.sd = 0) (hy:y.sd≠0) (q:Int) (j:Nat):six f x.ow.toNat y.ow.toNat i x.pr price q j = f j + eff i price j x q + eff i price j y q:=by
 rw [six_dl]
 unfold eff
 rw [if_pos hx,if_neg hy]
 omega
structure Lin (φ:Lot→Int→Int):Prop where
 add:∀ x a b,φ x (a + b) = φ x a + φ x b
 self:∀ x (q r:Int),φ ⟨x.id,x.ow,x.sd,x.pr,q⟩ r = φ x r
theorem Lin.zero {φ:Lot→Int→Int} (h:Lin φ) (x:Lot):φ x 0 = 0:=by have:=h.add x 0 0;simp at this;omega
theorem lin_eff (i:Nat) (price:Int) (j:Nat):Lin (eff i price j):=⟨eff_add i price j,fun _ _ _=>rfl⟩
def askq (i j:Nat) (x:Lot) (q:Int):Int:=dl (hx i x) (per x * q) j
theorem lin_ask (i j:Nat):Lin (askq i j):=⟨fun x a b=>by unfold askq;rw [Int.mul_add,dl_add],fun _ _ _=>rfl⟩
theorem ask_q (i j:Nat) (x:Lot):ask1 i j x = askq i j x x.q:=by unfold ask1 askq;rw [mu_per]
theorem lin_one:Lin (fun _ q=>q):=⟨fun _ _ _=>rfl,fun _ _ _=>rfl⟩
def own (φ:Lot→Int→Int) (x:Lot):Int:=φ x x.q
theorem lin_side {φ:Lot→Int→Int} (h:Lin φ) (sd:Int):Lin (fun x q=>if x.sd = sd then φ x q else 0) :=
 ⟨fun x a b=>by show (if x.sd = sd then _ else _) = _;split <;> simp [h.add, *],fun x q r=>by show (if x.sd = sd then φ ⟨x.id,x.ow,x.sd,x.pr,q⟩ r else 0) = if x.sd = sd then φ x r else 0;rw [h.self]⟩
theorem sumBy_congr {g h:Lot→Int}:∀ {l:List Lot},(∀ x∈l,g x = h x)→sumBy g l = sumBy h l
 | [],_=>rfl
 | x :: l,H=>by rw [sumBy,sumBy,H x (List.mem_cons_self ..),sumBy_congr fun y hy=>H y (List.mem_cons_of_mem _ hy)]
theorem sumBy_add (g h:Lot→Int):∀ l:List Lot,sumBy (fun x=>g x + h x) l = sumBy g l + sumBy h l
 | []=>rfl
 | x :: l=>by rw [sumBy,sumBy,sumBy,sumBy_add g h l];omega
theorem sumBy_le {g h:Lot→Int}:∀ {l:List Lot},(∀ x∈l,g x≤h x)→sumBy g l≤sumBy h l
 | [],_=>Int.le_refl _
 | x :: l,H=>by
  have:=H x (List.mem_cons_self ..)
  have:=sumBy_le fun y hy=>H y (List.mem_cons_of_mem x hy)
  rw [sumBy,sumBy];omega
theorem sumBy_zero {g:Lot→Int}:∀ {l:List Lot},(∀ x∈l,g x = 0)→sumBy g l = 0
 | [],_=>rfl
 | x :: l,H=>by rw [sumBy,H x (List.mem_cons_self ..),sumBy_zero fun y hy=>H y (List.mem_cons_of_mem _ hy)];rfl
theorem sum_more {φ:Lot→Int→Int} (hφ:Lin φ) (c:Int→Int) (q:Int) {l:List Lot} (ho:Once l) {x:Lot} (hx:x∈l):sumBy (fun y=>φ y (more c x.id q y.id)) l = sumBy (fun y=>φ y (c y.id)) l + φ x q:=by
 induction l with
 | nil=>cases hx
 | cons y l ih =>
  have hno:y.id ∉ l.map (·.id)∧Once l:=by unfold Once at ho ⊢;rw [List.map_cons,List.nodup_cons] at ho;exact ho
  rw [sumBy,sumBy]
  rcases List.mem_cons.1 hx with rfl | hx'
  ·have e:sumBy (fun y=>φ y (more c x.id q y.id)) l = sumBy (fun y=>φ y (c y.id)) l:=sumBy_congr fun z hz=>by
    have:z.id≠x.id:=fun e=>hno.1 (by rw [← e];exact List.mem_map_of_mem hz)
    unfold more;rw [if_neg this]
   have e2:more c x.id q x.id = c x.id + q:=by unfold more;rw [if_pos rfl]
   rw [e,e2,hφ.add];omega
  ·have:y.id≠x.id:=fun e=>hno.1 (by rw [e];exact List.mem_map_of_mem hx')
   have e2:more c x.id q y.id = c y.id:=by unfold more;rw [if_neg this]
   rw [ih hno.2 hx',e2];omega
theorem more_got (f:Int × Int) (F:List (Int × Int)):(fun id=>got id (f :: F)) = more (fun id=>got id F) f.1 f.2:=by
 funext id
 show (if f.1 = id then f.2 else 0) + got id F = _
 simp only [more]
 by_cases h:f.1 = id
 ·rw [if_pos h,if_pos h.symm];omega
 ·rw [if_neg h,if_neg (fun e=>h e.symm)];omega
theorem got_take (F:List (Int × Int)) {k:Nat} (hk:k < F.length):(fun id=>got id (F.take (k + 1))) = more (fun id=>got id (F.take k)) (F[k]).1 (F[k]).2:=by
 funext id
 rw [List.take_succ_eq_append_getElem hk,got_append]
 show got id (F.take k) + ((if F[k].1 = id then F[k].2 else 0) + 0) = _
 simp only [more]
 by_cases h:F[k].1 = id
 ·rw [if_pos h,if_pos h.symm];omega
 ·rw [if_neg h,if_neg (fun e=>h e.symm)];omega
theorem got_nonneg (id:Int):∀ F:List (Int × Int),(∀ f∈F,1≤f.2)→0≤got id F
 | [],_=>Int.le_refl _
 | f :: F,h=>by
  have:=got_nonneg id F fun g hg=>h g (List.mem_cons_of_mem _ hg)
  have:=h f (List.mem_cons_self ..)
  show 0≤(if f.1 = id then f.2 else 0) + got id F
  split <;> omega
theorem got_take_le (id:Int) (F:List (Int × Int)) (h:∀ f∈F,1≤f.2) (k:Nat):got id (F.take k)≤got id F:=by
 have e:got id F = got id (F.take k++F.drop k):=by rw [List.take_append_drop]
 rw [e,got_append]
 have:=got_nonneg id (F.drop k) fun f hf=>h f (List.mem_of_mem_drop hf)
 omega
theorem got_mem_le {F:List (Int × Int)} (h:∀ f∈F,1≤f.2) {f:Int × Int} (hf:f∈F):f.2≤got f.1 F:=by
 obtain ⟨k,hk,rfl⟩:=List.mem_iff_getElem.1 hf
 have h1:=got_take_le (F[k]).1 F h (k + 1)
 have h2:=congrFun (got_take F hk) (F[k]).1
 simp only [more,if_true] at h2
 have h3:=got_nonneg (F[k]).1 (F.take k) fun g hg=>h g (List.mem_of_mem_take hg)
 omega
def filledOf (l:List Lot) (sd:Int) (f:Int × Int):List Lot:=if has l f.1 = true∧(nth l (pos l f.1)).sd = sd then [Pu.only (nth l (pos l f.1)) f.2] else []
def filled (l:List Lot) (sd:Int):List (Int × Int)→List Lot
 | []=>[]
 | f :: F=>filledOf l sd f++filled l sd F
theorem filled_append (l:List Lot) (sd:Int):∀ F G,filled l sd (F++G) = filled l sd F++filled l sd G
 | [],G=>rfl
 | f :: F,G=>by rw [List.cons_append,filled,filled,filled_append l sd F G,List.append_assoc]
theorem nth_mem {l:List Lot} {k:Nat} (h:k < l.length):nth l k∈l:=by rw [nth_get h];exact List.getElem_mem h
theorem has_of {l:List Lot} {x:Lot} (h:x∈l):has l x.id = true:=by
 unfold has;rw [List.any_eq_true];exact ⟨x,h,by simp⟩
theorem filled_mem {l:List Lot} {sd:Int} {y:Lot}:∀ {F:List (Int × Int)},y∈filled l sd F→∃ f∈F,∃ x∈l,x.id = f.1∧x.sd = sd∧y = Pu.only x f.2
 | [],h=>by cases h
 | f :: F,h=>by
  rw [filled,List.mem_append] at h
  rcases h with h | h
  ·unfold filledOf at h
   split at h
   ·rename_i hh
    have hk:=pos_has.1 hh.1
    exact ⟨f,List.mem_cons_self ..,nth l (pos l f.1),nth_mem hk,pos_id hk,hh.2,List.mem_singleton.1 h⟩
   ·cases h
  ·obtain ⟨g,hg,r⟩:=filled_mem h
   exact ⟨g,List.mem_cons_of_mem _ hg,r⟩
theorem sum_filled {φ:Lot→Int→Int} (hφ:Lin φ) {l:List Lot} (ho:Once l) (sd:Int):∀ F:List (Int × Int),(∀ f∈F,∃ x∈l,x.id = f.1)→sumBy (own φ) (filled l sd F) = sumBy (fun x=>if x.sd = sd then φ x (got x.id F) else 0) l
 | [],_=>by
  rw [filled,sumBy]
  exact (sumBy_zero fun x _=>by show (if x.sd = sd then φ x 0 else 0) = 0;rw [hφ.zero];simp).symm
 | f :: F,h=>by
  have ih:=sum_filled hφ ho sd F fun g hg=>h g (List.mem_cons_of_mem _ hg)
  obtain ⟨x,hx,he⟩:=h f (List.mem_cons_self ..)
  have hh:=has_of hx
  rw [he] at hh
  have hk:=pos_has.1 hh
  have hid:=pos_id hk
  have hm:=nth_mem hk
  have hs:=sum_more (lin_side hφ sd) (fun id=>got id F) f.2 ho hm
  rw [hid,← more_got] at hs
  rw [filled,sumBy_append,ih]
  have e:sumBy (own φ) (filledOf l sd f) = if (nth l (pos l f.1)).sd = sd then φ (nth l (pos l f.1)) f.2 else 0:=by
   unfold filledOf
   by_cases h2:(nth l (pos l f.1)).sd = sd
   ·rw [if_pos ⟨hh,h2⟩,if_pos h2,sumBy,sumBy]
    show φ (Pu.only _ _) f.2 + 0 = _
    unfold Pu.only
    rw [hφ.self];omega
   ·rw [if_neg (fun h3=>h2 h3.2),if_neg h2];rfl
  rw [e]
  have:(fun y:Lot=>if y.sd = sd then φ y (got y.id (f :: F)) else 0) = fun y=>if y.sd = sd then φ y ((fun id=>got id (f :: F)) y.id) else 0:=rfl
  rw [this,hs]
  omega
def wo:List Lot→Int→List Lot
 | [],_=>[]
 | x :: l,q=>if x.q - q = 0 then l else less x q :: l
theorem wo_cons (x:Lot) (l:List Lot) (q:Int):wo (x :: l) q = if x.q - q = 0 then l else less x q :: l:=rfl
structure TI (i:Nat) (price:Int) (G:Nat→Int) (f:Nat→Int) (bs ss:List Lot):Prop where
 sum:∀ j,f j + sumBy (own (eff i price j)) bs + sumBy (own (eff i price j)) ss = G j
 tot:tot bs = tot ss
 wb:∀ x∈bs,well i x = true∧x.sd = 0∧price≤x.pr
 ws:∀ x∈ss,well i x = true∧x.sd = 1∧x.pr≤price
 good:Pu.Good f
 held:∀ j,IsHeld j→sumBy (ask1 i j) bs + sumBy (ask1 i j) ss≤f j
 cash:cashes f 6≤1099511627776
 stock:∀ k,k < 3→stocks f k 6≤1073741824
theorem tot_pos {l:List Lot} (h:∀ x∈l,1≤x.q):0≤Ra.tot l∧(Ra.tot l = 0→l = []):=by
 cases l with
 | nil=>exact ⟨Int.le_refl _,fun _=>rfl⟩
 | cons x l =>
  have h1:=h x (List.mem_cons_self ..)
  have h2:=Ra.tot_nonneg l fun y hy=>h y (List.mem_cons_of_mem _ hy)
  have:Ra.tot (x :: l) = x.q + Ra.tot l:=rfl
  exact ⟨by omega,fun e=>by omega⟩
theorem well_q {i:Nat} {x:Lot} (h:well i x = true):1≤x.q:=(Cv.ok_bounds (well_ok h)).2.2.2.2.1
theorem TI.done {i:Nat} {price:Int} {G f:Nat→Int} {bs ss:List Lot} (h:TI i price G f bs ss) (he:bs = []∨ss = []):∀ j,f j = G j:=by
 have h1:=tot_pos fun x hx=>well_q (h.wb x hx).1
 have h2:=tot_pos fun x hx=>well_q (h.ws x hx).1
 have ht:=h.tot
 have e0:Ra.tot [] = 0:=rfl
 have:bs = []∧ss = []:=by
  rcases he with e | e
  ·subst e;exact ⟨rfl,h2.2 (by omega)⟩
  ·subst e;exact ⟨h1.2 (by omega),rfl⟩
 intro j
 have:=h.sum j
 rw [‹bs = []∧ss = []›.1,‹bs = []∧ss = []›.2,sumBy] at this
 omega
theorem wo_sum {φ:Lot→Int→Int} (hφ:Lin φ) (x:Lot) (l:List Lot) (q:Int):sumBy (own φ) (wo (x :: l) q) = sumBy (own φ) (x :: l) - φ x q:=by
 have h:φ x x.q = φ x (x.q - q) + φ x q:=by rw [← hφ.add];congr 1;omega
 rw [wo_cons]
 split
 ·rename_i e
  have h':φ x (x.q - q) = 0:=by rw [e];exact hφ.zero x
  show sumBy (own φ) l = own φ x + sumBy (own φ) l - φ x q
  unfold own at *
  omega
 ·show own φ (less x q) + sumBy (own φ) l = own φ x + sumBy (own φ) l - φ x q
  have:own φ (less x q) = φ x (x.q - q):=hφ.self x _ _
  rw [this]
  unfold own at *
  omega
theorem wo_mem {x y:Lot} {l:List Lot} {q:Int} (h:y∈wo (x :: l) q):y∈l∨(x.q - q≠0∧y = less x q):=by
 rw [wo_cons] at h
 split at h
 ·exact .inl h
 ·rename_i e
  rcases List.mem_cons.1 h with h | h
  ·exact .inr ⟨e,h⟩
  ·exact .inl h
theorem less_well {i:Nat} {x:Lot} {q:Int} (h:well i x = true) (h1:1≤q) (h2:q < x.q):well i (less x q) = true:=by
 have h3:=ok_less (well_ok h) h1 h2
 simp only [well,Bool.and_eq_true] at h ⊢
 exact ⟨h.1,h3⟩
theorem tot_own (l:List Lot):Ra.tot l = sumBy (own fun _ q=>q) l:=by
 induction l with
 | nil=>rfl
 | cons x l ih=>show x.q + Ra.tot l = x.q + _;rw [ih]
theorem ask_own (i j:Nat) (l:List Lot):sumBy (ask1 i j) l = sumBy (own (askq i j)) l:=sumBy_congr fun x _=>ask_q i j x
theorem cash_le {f:Nat→Int} (hg:Pu.Good f) {b s:Nat} (hb:b < 6) (hs:s < 6) (hne:b≠s):f (b * 8) + f (s * 8)≤cashes f 6:=by
 have h0:=hg.cash 0 (by decide)
 have h1:=hg.cash 1 (by decide)
 have h2:=hg.cash 2 (by decide)
 have h3:=hg.cash 3 (by decide)
 have h4:=hg.cash 4 (by decide)
 have h5:=hg.cash 5 (by decide)
 simp only [cashes]
 have:b = 0∨b = 1∨b = 2∨b = 3∨b = 4∨b = 5:=by omega
 have:s = 0∨s = 1∨s = 2∨s = 3∨s = 4∨s = 5:=by omega
 rcases ‹b = 0∨_› with rfl | rfl | rfl | rfl | rfl | rfl <;> rcases ‹s = 0∨_› with rfl | rfl | rfl | rfl | rfl | rfl <;> first | exact absurd rfl hne | (simp only [Nat.reduceMul,Nat.reduceAdd] at *;omega)
theorem stock_le {f:Nat→Int} (hg:Pu.Good f) {k b s:Nat} (hk:k < 3) (hb:b < 6) (hs:s < 6) (hne:b≠s):f (b * 8 + 2 + k) + f (s * 8 + 2 + k)≤stocks f k 6:=by
 have h0:=hg.stock 0 k (by decide) hk
 have h1:=hg.stock 1 k (by decide) hk
 have h2:=hg.stock 2 k (by decide) hk
 have h3:=hg.stock 3 k (by decide) hk
 have h4:=hg.stock 4 k (by decide) hk
 have h5:=hg.stock 5 k (by decide) hk
 simp only [stocks]
 have:b = 0∨b = 1∨b = 2∨b = 3∨b = 4∨b = 5:=by omega
 have:s = 0∨s = 1∨s = 2∨s = 3∨s = 4∨s = 5:=by omega
 rcases ‹b = 0∨_› with rfl | rfl | rfl | rfl | rfl | rfl <;> rcases ‹s = 0∨_› with rfl | rfl | rfl | rfl | rfl | rfl <;> first | exact absurd rfl hne | (simp only [Nat.reduceMul,Nat.reduceAdd] at *;omega)
theorem TI.step {i:Nat} (hi:i < 3) {price:Int} (hp:1≤price∧price≤1000) {G f:Nat→Int} {x y:Lot} {bs ss:List Lot} (h:TI i price G f (x :: bs) (y :: ss)) {q:Int} (hq:q = min x.q y.q) :
  tradeC f i x y price q = 0∧TI i price G (tradeF f i x y price q) (wo (x :: bs) q) (wo (y :: ss) q):=by
 obtain ⟨wx,sx,px⟩:=h.wb x (List.mem_cons_self ..)
 obtain ⟨wy,sy,py⟩:=h.ws y (List.mem_cons_self ..)
 have qx:=well_q wx
 have qy:=well_q wy
 have q1:1≤q:=by omega
 have q2:q≤x.q:=by omega
 have q3:q≤y.q:=by omega
 have sy0:y.sd≠0:=by omega
 have bx:=Cv.ok_bounds (well_ok wx)
 have by':=Cv.ok_bounds (well_ok wy)
 have hxow:x.ow.toNat < 6:=by omega
 have hyow:y.ow.toNat < 6:=by omega
 have it:((i:Nat):Int).toNat = i:=Int.toNat_natCast i
 have nn:∀ (l:List Lot),(∀ z∈l,well i z = true)→∀ j,0≤sumBy (ask1 i j) l:=fun l hl j=>(sumBy_ge fun z hz=>by
  have:=mu_bounds (well_ok (hl z hz))
  unfold ask1 dl
  split <;> omega).1
 have ax:∀ j,ask1 i j x = dl (x.ow.toNat * 8 + 1) (x.pr * x.q) j:=fun j=>by
  unfold ask1 hx mu;rw [if_pos sx,if_pos sx]
 have ay:∀ j,ask1 i j y = dl (y.ow.toNat * 8 + 5 + i) y.q j:=fun j=>by
  unfold ask1 hx mu;rw [if_neg sy0,if_neg sy0,it]
 have nx:=nn bs (fun z hz=>(h.wb z (List.mem_cons_of_mem _ hz)).1)
 have ny:=nn ss (fun z hz=>(h.ws z (List.mem_cons_of_mem _ hz)).1)
 have hm1:0≤x.pr * x.q:=Int.mul_nonneg (by omega) (by omega)
 have hx1:x.pr * x.q≤f (x.ow.toNat * 8 + 1):=by
  have:=h.held (x.ow.toNat * 8 + 1) ⟨x.ow.toNat,hxow,.inl rfl⟩
  rw [sumBy,sumBy,ax,ay,dl_at,dl_ne (by omega)] at this
  have:=nx (x.ow.toNat * 8 + 1)
  have:=ny (x.ow.toNat * 8 + 1)
  omega
 have hy1:y.q≤f (y.ow.toNat * 8 + 5 + i):=by
  have:=h.held (y.ow.toNat * 8 + 5 + i) ⟨y.ow.toNat,hyow,.inr ⟨i,hi,rfl⟩⟩
  rw [sumBy,sumBy,ax,ay,dl_at,dl_ne (by omega)] at this
  have:=nx (y.ow.toNat * 8 + 5 + i)
  have:=ny (y.ow.toNat * 8 + 5 + i)
  omega
 have hmq:x.pr * q≤x.pr * x.q:=Int.mul_le_mul_of_nonneg_left q2 (by omega)
 have hpq:price * q≤x.pr * q:=Int.mul_le_mul_of_nonneg_right px (by omega)
 have hC0:tchk i x y price q = 0:=by
  unfold tchk
  rw [if_pos ⟨wx,wy⟩,if_pos ⟨sx,sy⟩,if_pos ⟨hp,q1,q2,q3⟩,if_pos ⟨py,px⟩]
 have hpoor:poor f x.ow.toNat y.ow.toNat i x.pr q = false:=by
  simp only [poor,Bool.or_eq_false_iff,decide_eq_false_iff_not]
  exact ⟨by omega,by omega⟩
 have hover:over f x.ow.toNat y.ow.toNat i price q = false:=by
  unfold over
  by_cases e:x.ow.toNat = y.ow.toNat
  ·simp [e]
  ·have c1:=cash_le h.good hxow hyow e
   have c2:=stock_le h.good hi hxow hyow e
   have c3:=h.cash
   have c4:=h.stock i hi
   have c5:=h.good.cash _ hxow
   have c6:=h.good.stock _ i hyow hi
   have d1:decide (1073741824 < f (x.ow.toNat * 8 + 2 + i) + q) = false:=by simp;omega
   have d2:decide (1099511627776 < f (y.ow.toNat * 8) + price * q) = false:=by simp;omega
   rw [d1,d2];simp
 have hC:tradeC f i x y price q = 0:=by
  unfold tradeC
  rw [if_pos hC0,it,if_neg (by rw [hpoor];decide),if_neg (by rw [hover];decide)]
 have hF:tradeF f i x y price q = six f x.ow.toNat y.ow.toNat i x.pr price q:=by
  unfold tradeF;rw [if_pos hC,it]
 have hg:=good_trade h.good i x y price q
 have hs:=trade_sums f i x y price q
 have e6:∀ j,tradeF f i x y price q j = f j + eff i price j x q + eff i price j y q:=fun j=>by rw [hF];exact six_eff f i price sx sy0 q j
 refine ⟨hC,?_,?_,?_,?_,hg,?_,by rw [hs.1];exact h.cash,fun k hk=>by rw [hs.2 k hk];exact h.stock k hk⟩
 ·intro j
  rw [wo_sum (lin_eff i price j),wo_sum (lin_eff i price j),e6,← h.sum j]
  omega
 ·have:=h.tot
  rw [tot_own,tot_own] at this ⊢
  rw [wo_sum lin_one,wo_sum lin_one]
  omega
 ·intro z hz
  rcases wo_mem hz with hz | ⟨hz,rfl⟩
  ·exact h.wb z (List.mem_cons_of_mem _ hz)
  ·exact ⟨less_well wx q1 (by omega),sx,px⟩
 ·intro z hz
  rcases wo_mem hz with hz | ⟨hz,rfl⟩
  ·exact h.ws z (List.mem_cons_of_mem _ hz)
  ·exact ⟨less_well wy q1 (by omega),sy,py⟩
 ·intro j hj
  have:=h.held j hj
  rw [ask_own,ask_own] at this ⊢
  rw [wo_sum (lin_ask i j),wo_sum (lin_ask i j),e6]
  have ex:eff i price j x q = -(askq i j x q):=by
   unfold eff askq hx per
   rw [if_pos sx,if_pos sx,if_pos sx]
   obtain ⟨c,hc,hcj⟩:=hj
   rw [dl_ne (i:=x.ow.toNat * 8) (by rcases hcj with e | ⟨k,hk,e⟩ <;> omega),dl_ne (i:=x.ow.toNat * 8 + 2 + i) (by rcases hcj with e | ⟨k,hk,e⟩ <;> omega)]
   unfold dl;split <;> omega
  have ey:eff i price j y q = -(askq i j y q):=by
   unfold eff askq hx per
   rw [if_neg sy0,if_neg sy0,if_neg sy0,it,Int.one_mul]
   obtain ⟨c,hc,hcj⟩:=hj
   rw [dl_ne (i:=y.ow.toNat * 8) (by rcases hcj with e | ⟨k,hk,e⟩ <;> omega),dl_ne (i:=y.ow.toNat * 8 + 2 + i) (by rcases hcj with e | ⟨k,hk,e⟩ <;> omega)]
   unfold dl;split <;> omega
  omega
end Fs
namespace Fs
open Cv Bk Ra Pu Fu
structure Fil (l:List Lot) (price:Int) (F:List (Int × Int)):Prop where
 pos:∀ f∈F,1≤f.2∧∃ x∈l,x.id = f.1
 le:∀ x∈l,0≤got x.id F∧got x.id F≤x.q
 el:∀ x∈l,0 < got x.id F→(x.sd = 0→price≤x.pr)∧(x.sd = 1→x.pr≤price)
 bal:sumBy (fun x=>if x.sd = 0 then got x.id F else 0) l = sumBy (fun x=>if x.sd = 1 then got x.id F else 0) l
def restL (F:List (Int × Int)) (l:List Lot):List Lot:=rem (fun id=>got id F) l
def sett (f:Nat→Int) (i:Nat) (price:Int) (l:List Lot) (F:List (Int × Int)) (j:Nat):Int:=f j + sumBy (fun x=>eff i price j x (got x.id F)) l
structure FOk (L:Nat→List Lot) (f:Nat→Int):Prop where
 bk:∀ i,i < 3→Bk.Good (L i)
 good:Pu.Good f
 held:Held L f
 cash:cashes f 6≤1099511627776
 stock:∀ k,k < 3→stocks f k 6≤1073741824
theorem eff_held {i:Nat} (hi:i < 3) {price:Int} {j:Nat} (hj:IsHeld j) (x:Lot) (q:Int):eff i price j x q = -(askq i j x q):=by
 obtain ⟨c,hc,hcj⟩:=hj
 unfold eff askq hx per
 rw [Int.toNat_natCast]
 split
 ·rw [dl_ne (i:=x.ow.toNat * 8) (by rcases hcj with e | ⟨k,hk,e⟩ <;> omega),dl_ne (i:=x.ow.toNat * 8 + 2 + i) (by rcases hcj with e | ⟨k,hk,e⟩ <;> omega)]
  unfold dl;split <;> omega
 ·rw [dl_ne (i:=x.ow.toNat * 8) (by rcases hcj with e | ⟨k,hk,e⟩ <;> omega),dl_ne (i:=x.ow.toNat * 8 + 2 + i) (by rcases hcj with e | ⟨k,hk,e⟩ <;> omega),Int.one_mul]
  unfold dl;split <;> omega
theorem sum_rem {φ:Lot→Int→Int} (hφ:Lin φ) {c:Int→Int}:∀ {l:List Lot},(∀ x∈l,c x.id≤x.q)→sumBy (own φ) (rem c l) = sumBy (own φ) l - sumBy (fun x=>φ x (c x.id)) l
 | [],_=>rfl
 | x :: l,h=>by
  have ih:=sum_rem hφ (c:=c) (l:=l) fun y hy=>h y (List.mem_cons_of_mem _ hy)
  have hx:=h x (List.mem_cons_self ..)
  have e:φ x x.q = φ x (x.q - c x.id) + φ x (c x.id):=by rw [← hφ.add];congr 1;omega
  unfold rem at ih ⊢
  rw [List.filterMap_cons]
  by_cases hc:c x.id < x.q
  ·have:remF c x = some (less x (c x.id)):=by unfold remF;rw [if_pos hc]
   rw [this]
   show own φ (less x (c x.id)) + sumBy (own φ) (l.filterMap (remF c)) = own φ x + sumBy (own φ) l - (φ x (c x.id) + sumBy _ l)
   have e2:own φ (less x (c x.id)) = φ x (x.q - c x.id):=hφ.self x _ _
   rw [e2,ih]
   unfold own
   omega
  ·have:remF c x = none:=by unfold remF;rw [if_neg hc]
   rw [this]
   show sumBy (own φ) (l.filterMap (remF c)) = own φ x + sumBy (own φ) l - (φ x (c x.id) + sumBy _ l)
   have e3:c x.id = x.q:=by omega
   rw [ih]
   unfold own
   rw [e3]
   omega
theorem good_rem {l:List Lot} (h:Bk.Good l) {c:Int→Int} (hc:∀ x∈l,0≤c x.id):Bk.Good (rem c l):=by
 refine ⟨fun y hy=>?_,Nat.le_trans (List.length_filterMap_le _ _) h.2,rem_once h.3⟩
 obtain ⟨x,hx,hlt,rfl⟩:=rem_mem.1 hy
 have h0:=hc x hx
 by_cases e:c x.id = 0
 ·rw [e]
  have:less x 0 = x:=by unfold less;simp
  rw [this];exact h.1 x hx
 ·exact ok_less (h.1 x hx) (by omega) hlt
theorem side_or {l:List Lot} (h:Oks l) {x:Lot} (hx:x∈l):x.sd = 0∨x.sd = 1:=by
 have:=(ok_bounds (h x hx)).2.2.1;omega
theorem both_sides {φ:Lot→Int→Int} {l:List Lot} (h:Oks l) (F:List (Int × Int)) :
  sumBy (fun x=>if x.sd = 0 then φ x (got x.id F) else 0) l + sumBy (fun x=>if x.sd = 1 then φ x (got x.id F) else 0) l = sumBy (fun x=>φ x (got x.id F)) l:=by
 rw [← sumBy_add]
 exact sumBy_congr fun x hx=>by
  rcases side_or h hx with e | e
  ·rw [if_pos e,if_neg (by omega)];omega
  ·rw [if_neg (by omega),if_pos e];omega
theorem filled_well {l:List Lot} (h:Oks l) {price:Int} {F:List (Int × Int)} (hF:Fil l price F) {i:Nat} (hi:i < 3) {sd:Int} {y:Lot} (hy:y∈filled l sd F):well i y = true∧y.sd = sd∧(y.sd = 0→price≤y.pr)∧(y.sd = 1→y.pr≤price):=by
 obtain ⟨f,hf,x,hx,hid,hsd,rfl⟩:=filled_mem hy
 have h1:=(hF.pos f hf).1
 have h2:=got_mem_le (fun g hg=>(hF.pos g hg).1) hf
 rw [← hid] at h2
 have h3:=(hF.le x hx).2
 exact ⟨only_well (well_of hi (h x hx)) h1 (by omega),hsd,(hF.el x hx (by omega)).1,(hF.el x hx (by omega)).2⟩
theorem FOk.start {L:Nat→List Lot} {f:Nat→Int} (h:FOk L f) {i:Nat} (hi:i < 3) {price:Int} {F:List (Int × Int)} (hF:Fil (L i) price F):TI i price (sett f i price (L i) F) f (filled (L i) 0 F) (filled (L i) 1 F):=by
 have hok:=(h.bk i hi).1
 have hon:=(h.bk i hi).3
 have hm:∀ g∈F,∃ x∈L i,x.id = g.1:=fun g hg=>(hF.pos g hg).2
 have hs:∀ {φ:Lot→Int→Int},Lin φ→sumBy (own φ) (filled (L i) 0 F) + sumBy (own φ) (filled (L i) 1 F) = sumBy (fun x=>φ x (got x.id F)) (L i):=fun {φ} hφ=>by
  rw [sum_filled hφ hon 0 F hm,sum_filled hφ hon 1 F hm,both_sides hok]
 refine ⟨fun j=>?_,?_,fun x hx=>?_,fun x hx=>?_,h.good,fun j hj=>?_,h.cash,h.stock⟩
 ·have:=hs (lin_eff i price j)
  unfold sett
  omega
 ·rw [tot_own,tot_own,sum_filled lin_one hon 0 F hm,sum_filled lin_one hon 1 F hm]
  exact hF.bal
 ·obtain ⟨a,b,c,_⟩:=filled_well hok hF hi hx
  exact ⟨a,b,c b⟩
 ·obtain ⟨a,b,_,c⟩:=filled_well hok hF hi hx
  exact ⟨a,b,c b⟩
 ·rw [ask_own,ask_own,hs (lin_ask i j),h.held j hj]
  have h1:sumBy (fun x=>askq i j x (got x.id F)) (L i)≤sumBy (ask1 i j) (L i):=sumBy_le fun x hx=>by
   have hb:=hF.le x hx
   have hp:=ok_bounds (hok x hx)
   rw [ask_q]
   unfold askq dl
   split
   ·exact Int.mul_le_mul_of_nonneg_left hb.2 (by unfold per;split <;> omega)
   ·exact Int.le_refl _
  have nn:∀ k,k < 3→0≤sumBy (ask1 k j) (L k):=fun k hk=>(sumBy_ge fun y hy=>by
   have:=mu_bounds ((h.bk k hk).1 y hy)
   unfold ask1 dl
   split <;> omega).1
  have n0:=nn 0 (by decide)
  have n1:=nn 1 (by decide)
  have n2:=nn 2 (by decide)
  have:i = 0∨i = 1∨i = 2:=by omega
  unfold asked
  rcases this with rfl | rfl | rfl <;> omega
theorem FOk.settled {L:Nat→List Lot} {f:Nat→Int} (h:FOk L f) {i:Nat} (hi:i < 3) {price:Int} {F:List (Int × Int)} (hF:Fil (L i) price F)
  (hg:Pu.Good (sett f i price (L i) F)) (hc:cashes (sett f i price (L i) F) 6 = cashes f 6) (hs:∀ k,k < 3→stocks (sett f i price (L i) F) k 6 = stocks f k 6):FOk (upd L i (restL F (L i))) (sett f i price (L i) F):=by
 refine ⟨fun k hk=>?_,hg,fun j hj=>?_,by rw [hc];exact h.cash,fun k hk=>by rw [hs k hk];exact h.stock k hk⟩
 ·by_cases e:k = i
  ·subst e;rw [upd_same];exact good_rem (h.bk k hk) fun x hx=>(hF.le x hx).1
  ·rw [upd_ne _ _ e];exact h.bk k hk
 ·rw [asked_upd L hi,ask_own,ask_own]
  unfold restL sett
  rw [sum_rem (lin_ask i j) (fun x hx=>(hF.le x hx).2),h.held j hj]
  have:sumBy (fun x=>eff i price j x (got x.id F)) (L i) = - sumBy (fun x=>askq i j x (got x.id F)) (L i):=by
   have e:sumBy (fun x=>eff i price j x (got x.id F) + askq i j x (got x.id F)) (L i) = 0:=sumBy_zero fun x _=>by rw [eff_held hi hj];omega
   rw [sumBy_add] at e
   omega
  rw [this]
  omega
end Fs
theorem upd_upd {α:Type} (f:Nat→α) (i:Nat) (x y:α):upd (upd f i x) i y = upd f i y:=by
 funext j;unfold upd;split <;> rfl
theorem upd_self {α:Type} (f:Nat→α) (i:Nat):upd f i (f i) = f:=by
 funext j;unfold upd;split
 ·rename_i h;rw [h]
 ·rfl
namespace Bk
def idsOf (l:List Cv.Lot) (ow:Int):List Int:=(l.filter fun x=>x.ow == ow).map (·.id)
end Bk
namespace Fl
def lot (a:Ask):Cv.Lot:=⟨a.id,a.c,a.sd,a.pr,a.q⟩
def kindN (a:Ask) (k:Int):Int:=if Wi.code a.k a.c a.sq a.it a.sd a.pr a.q a.id = 0∧a.k≠k then 4 else Wi.code a.k a.c a.sq a.it a.sd a.pr a.q a.id
def placeC (L:Nat→List Cv.Lot) (pf:Nat→Int) (a:Ask):Nat :=
 if kindN a 111 = 0 then (if Cv.ok (lot a) = true then (if Cv.has (L a.it.toNat) a.id = true then 6 else if 60≤(L a.it.toNat).length then 7 else Pu.holdC pf a.it (lot a)) else 1) else (kindN a 111 - 1).toNat
def placeL (L:Nat→List Cv.Lot) (pf:Nat→Int) (a:Ask):Nat→List Cv.Lot:=if placeC L pf a = 0 then upd L a.it.toNat (L a.it.toNat++[lot a]) else L
def placeF (L:Nat→List Cv.Lot) (pf:Nat→Int) (a:Ask):Nat→Int:=if placeC L pf a = 0 then Pu.holdF pf a.it (lot a) else pf
theorem kindN_zero {a:Ask} {k:Int} (h:kindN a k = 0):a.k = k∧Wi.boundB a.k a.c a.sq a.it a.sd a.pr a.q a.id = true∧Wi.shapeB a.k a.it a.sd a.pr a.q a.id = true:=by
 unfold kindN at h
 split at h
 ·cases h
 ·rename_i hn
  have hc:Wi.code a.k a.c a.sq a.it a.sd a.pr a.q a.id = 0:=by omega
  refine ⟨Decidable.byContradiction fun e=>hn ⟨hc,e⟩,?_,?_⟩
  ·unfold Wi.code at hc
   split at hc
   ·split at hc
    ·assumption
    ·cases hc
   ·cases hc
  ·unfold Wi.code at hc
   split at hc
   ·split at hc
    ·split at hc
     ·assumption
     ·cases hc
    ·cases hc
   ·cases hc
theorem kindN_pos {a:Ask} {k:Int} (h:kindN a k≠0):2≤kindN a k:=by
 unfold kindN at *
 split
 ·decide
 ·rename_i hn
  rw [if_neg hn] at h
  have:Wi.code a.k a.c a.sq a.it a.sd a.pr a.q a.id = 0∨2≤Wi.code a.k a.c a.sq a.it a.sd a.pr a.q a.id:=by
   unfold Wi.code;split <;> (try split) <;> (try split) <;> omega
  omega
theorem place_item {a:Ask} (h:kindN a 111 = 0):0≤a.it∧a.it≤2:=by
 obtain ⟨h1,h2,_⟩:=kindN_zero h
 rw [h1] at h2
 simp [Wi.boundB,Wi.withinB] at h2
 omega
def mine (L:Nat→List Cv.Lot) (a:Ask):Bool:=Cv.has (L a.it.toNat) a.id&&((Cv.nth (L a.it.toNat) (Bk.pos (L a.it.toNat) a.id)).ow == a.c)
def canX (L:Nat→List Cv.Lot) (a:Ask):Cv.Lot:=if kindN a 99 = 0∧mine L a = true then Cv.nth (L a.it.toNat) (Bk.pos (L a.it.toNat) a.id) else Cv.z
def canC (L:Nat→List Cv.Lot) (pf:Nat→Int) (a:Ask):Nat :=
 if kindN a 99 = 0 then (if mine L a = true then Pu.freeC pf a.it (canX L a) else 5) else (kindN a 99 - 1).toNat
def canL (L:Nat→List Cv.Lot) (a:Ask):Nat→List Cv.Lot:=if kindN a 99 = 0∧mine L a = true then upd L a.it.toNat (Bk.del (L a.it.toNat) (Bk.pos (L a.it.toNat) a.id)) else L
def canF (L:Nat→List Cv.Lot) (pf:Nat→Int) (a:Ask):Nat→Int:=if kindN a 99 = 0∧mine L a = true then Pu.freeF pf a.it (canX L a) else pf
theorem cancel_item {a:Ask} (h:kindN a 99 = 0):0≤a.it∧a.it≤2:=by
 obtain ⟨h1,h2,_⟩:=kindN_zero h
 rw [h1] at h2
 simp [Wi.boundB,Wi.withinB] at h2
 omega
def dropStep (i:Nat) (s:List Cv.Lot × (Nat→Int) × List Cv.Lot) (id:Int):List Cv.Lot × (Nat→Int) × List Cv.Lot :=
 (Bk.canL s.1 id,Pu.freeF s.2.1 i (Bk.canX s.1 id),s.2.2++[Bk.canX s.1 id])
def dropI (i:Nat) (l:List Cv.Lot) (f:Nat→Int) (o:List Cv.Lot) (ids:List Int):List Cv.Lot × (Nat→Int) × List Cv.Lot:=ids.foldl (dropStep i) (l,f,o)
def dropTo (c:Int) (L:Nat→List Cv.Lot) (f:Nat→Int):Nat→(Nat→List Cv.Lot) × (Nat→Int) × List Cv.Lot
 | 0=>(L,f,[])
 | i + 1 =>
  (upd (dropTo c L f i).1 i (dropI i ((dropTo c L f i).1 i) (dropTo c L f i).2.1 (dropTo c L f i).2.2 (Bk.idsOf ((dropTo c L f i).1 i) c)).1,
   (dropI i ((dropTo c L f i).1 i) (dropTo c L f i).2.1 (dropTo c L f i).2.2 (Bk.idsOf ((dropTo c L f i).1 i) c)).2.1,
   (dropI i ((dropTo c L f i).1 i) (dropTo c L f i).2.1 (dropTo c L f i).2.2 (Bk.idsOf ((dropTo c L f i).1 i) c)).2.2)
def gift (cash stock:Int):Nat→Nat→Int
 | 0=>fun _=>0
 | k + 1=>Pu.giveF (gift cash stock k) ⟨k,cash,stock,stock,stock⟩
theorem good_gift (cash stock:Int):∀ k,Pu.Good (gift cash stock k)
 | 0=>Pu.good_zero
 | k + 1=>Pu.good_give (good_gift cash stock k) _
def bands (ref:Int) (k:Nat):Int:=if k % 2 = 0 then ref else 0
open Cv Bk Ra Pu Fu Fs
theorem _root_.Go.Proofs.YtidahfhingdlmaaGreatDoor.Fs.FOk.place {L:Nat→List Lot} {f:Nat→Int} (h:FOk L f) (a:Ask):FOk (placeL L f a) (placeF L f a):=by
 unfold placeL placeF
 by_cases hc:placeC L f a = 0
 ·rw [if_pos hc,if_pos hc]
  unfold placeC at hc
  split at hc
  ·rename_i hk
   have hit:=place_item hk
   split at hc
   ·rename_i hok
    split at hc
    ·cases hc
    ·rename_i hn
     split at hc
     ·cases hc
     ·rename_i hl
      have hi:a.it.toNat < 3:=by omega
      have he:((a.it.toNat:Nat):Int) = a.it:=by omega
      have hF:holdF f a.it (lot a) = Pu.add f (hx a.it (lot a)) (mu (lot a)):=by unfold holdF;rw [if_pos hc]
      have hs:=hold_sums f a.it (lot a) 6
      refine ⟨fun k hk=>?_,good_hold h.good _ _,?_,by rw [hs.1];exact h.cash,fun k hk=>by rw [hs.2 k hk];exact h.stock k hk⟩
      ·by_cases e:k = a.it.toNat
       ·subst e;rw [upd_same]
        exact good_add (h.bk _ hi) hok (by simpa [lot] using hn) (by omega)
       ·rw [upd_ne _ _ e];exact h.bk k hk
      ·have:=held_place h.held hi (lot a)
       rw [he,← hF] at this
       exact this
   ·cases hc
  ·rename_i hk
   have:=kindN_pos hk
   omega
 ·rw [if_neg hc,if_neg hc];exact h
theorem free_ok {L:Nat→List Lot} {f:Nat→Int} (h:FOk L f) {i:Nat} (hi:i < 3) {x:Lot} (hx':x∈L i):freeC f i x = 0:=by
 have:=held_ge h.held (fun j hj=>(h.bk j hj).oks) hi hx'
 unfold freeC
 rw [if_pos (well_of hi ((h.bk i hi).oks x hx')),if_neg (by omega)]
theorem _root_.Go.Proofs.YtidahfhingdlmaaGreatDoor.Fs.FOk.gone {L:Nat→List Lot} {f:Nat→Int} (h:FOk L f) {i:Nat} (hi:i < 3) {k:Nat} (hk:k < (L i).length):FOk (upd L i (del (L i) k)) (freeF f i (nth (L i) k)):=by
 have hc:=free_ok h hi (Cv.nth_mem hk)
 have hF:freeF f i (nth (L i) k) = Pu.add f (hx i (nth (L i) k)) (-(mu (nth (L i) k))):=by unfold freeF;rw [if_pos hc]
 have hs:=free_sums f i (nth (L i) k) 6
 refine ⟨fun m hm=>?_,good_free h.good _ _,?_,by rw [hs.1];exact h.cash,fun m hm=>by rw [hs.2 m hm];exact h.stock m hm⟩
 ·by_cases e:m = i
  ·subst e;rw [upd_same];exact good_del (h.bk _ hi) hk
  ·rw [upd_ne _ _ e];exact h.bk m hm
 ·rw [hF];exact held_cancel h.held hi hk
theorem can_zero {L:Nat→List Lot} {f:Nat→Int} (h:FOk L f) {a:Ask} (hk:kindN a 99 = 0) (hm:mine L a = true):canC L f a = 0∧pos (L a.it.toNat) a.id < (L a.it.toNat).length∧a.it.toNat < 3:=by
 have hit:=cancel_item hk
 have hi:a.it.toNat < 3:=by omega
 have he:((a.it.toNat:Nat):Int) = a.it:=by omega
 have hh:has (L a.it.toNat) a.id = true:=by
  unfold mine at hm
  simp only [Bool.and_eq_true] at hm
  exact hm.1
 have hp:=pos_has.1 hh
 have:=free_ok h hi (Cv.nth_mem hp)
 rw [he] at this
 refine ⟨?_,hp,hi⟩
 unfold canC canX
 rw [if_pos hk,if_pos hm,if_pos ⟨hk,hm⟩]
 exact this
theorem _root_.Go.Proofs.YtidahfhingdlmaaGreatDoor.Fs.FOk.cancel {L:Nat→List Lot} {f:Nat→Int} (h:FOk L f) (a:Ask):FOk (canL L a) (canF L f a):=by
 unfold canL canF
 by_cases hc:kindN a 99 = 0∧mine L a = true
 ·rw [if_pos hc,if_pos hc]
  obtain ⟨_,hp,hi⟩:=can_zero h hc.1 hc.2
  have he:((a.it.toNat:Nat):Int) = a.it:=by have:=cancel_item hc.1;omega
  have:=h.gone hi hp
  rw [he] at this
  have hx':canX L a = nth (L a.it.toNat) (pos (L a.it.toNat) a.id):=by unfold canX;rw [if_pos hc]
  rw [hx']
  exact this
 ·rw [if_neg hc,if_neg hc];exact h
end Fl
namespace Fl
open Cv Bk Ra Pu Fu Fs
def keepL (c:Int) (l:List Lot) (k:Nat):List Lot:=(l.take k).filter (fun x=>!(x.ow == c))++l.drop k
def outL (c:Int) (l:List Lot) (k:Nat):List Lot:=(l.take k).filter (fun x=>x.ow == c)
def freeAll (i:Nat) (f:Nat→Int) (xs:List Lot):Nat→Int:=xs.foldl (fun f x=>freeF f i x) f
theorem take_snoc {l:List Lot} {k:Nat} (h:k < l.length):l.take (k + 1) = l.take k++[nth l k]:=by
 rw [List.take_succ_eq_append_getElem h,nth_get h]
theorem drop_cons {l:List Lot} {k:Nat} (h:k < l.length):l.drop k = nth l k :: l.drop (k + 1):=by
 rw [nth_get h];exact (List.getElem_cons_drop h).symm
theorem keep_zero (c:Int) (l:List Lot):keepL c l 0 = l:=by simp [keepL]
theorem keep_all (c:Int) {l:List Lot} {k:Nat} (h:l.length≤k):keepL c l k = l.filter (fun x=>!(x.ow == c)):=by
 unfold keepL;rw [List.take_of_length_le h,List.drop_of_length_le h,List.append_nil]
theorem out_all (c:Int) {l:List Lot} {k:Nat} (h:l.length≤k):outL c l k = l.filter (fun x=>x.ow == c):=by
 unfold outL;rw [List.take_of_length_le h]
theorem keep_other {c:Int} {l:List Lot} {k:Nat} (h:k < l.length) (hc:(nth l k).ow≠c):keepL c l (k + 1) = keepL c l k∧outL c l (k + 1) = outL c l k:=by
 have hb:((nth l k).ow == c) = false:=by simpa using hc
 constructor
 ·unfold keepL
  rw [take_snoc h,List.filter_append,drop_cons h,List.filter_cons,hb]
  simp
 ·unfold outL
  rw [take_snoc h,List.filter_append,List.filter_cons,hb]
  simp
theorem keep_mine {c:Int} {l:List Lot} (ho:Once l) {k:Nat} (h:k < l.length) (hc:(nth l k).ow = c) :
  Bk.canL (keepL c l k) (nth l k).id = keepL c l (k + 1)∧outL c l (k + 1) = outL c l k++[nth l k]∧nth (keepL c l k) (pos (keepL c l k) (nth l k).id) = nth l k∧pos (keepL c l k) (nth l k).id < (keepL c l k).length:=by
 have hb:((nth l k).ow == c) = true:=by simpa using hc
 obtain ⟨ha,_⟩:=once_split ho h
 have hno:has ((l.take k).filter (fun x=>!(x.ow == c))) (nth l k).id = false:=by
  cases hh:has ((l.take k).filter (fun x=>!(x.ow == c))) (nth l k).id with
  | false=>rfl
  | true =>
   unfold has at hh
   rw [List.any_eq_true] at hh
   obtain ⟨x,hx,he⟩:=hh
   exact absurd (by simpa using he) (ha x (List.mem_filter.1 hx).1)
 have hk:keepL c l k = (l.take k).filter (fun x=>!(x.ow == c))++nth l k :: l.drop (k + 1):=by unfold keepL;rw [drop_cons h]
 have hk1:keepL c l (k + 1) = (l.take k).filter (fun x=>!(x.ow == c))++l.drop (k + 1):=by
  unfold keepL;rw [take_snoc h,List.filter_append,List.filter_cons,hb];simp
 have hout:outL c l (k + 1) = outL c l k++[nth l k]:=by
  unfold outL;rw [take_snoc h,List.filter_append,List.filter_cons,hb];simp
 rw [hk,hk1]
 generalize (l.take k).filter (fun x=>!(x.ow == c)) = A at *
 generalize l.drop (k + 1) = B at *
 generalize nth l k = x at *
 have hp:pos (A++x :: B) x.id = A.length:=by
  unfold pos
  have h0:A.findIdx (fun y=>y.id == x.id) = A.length:=pos_hasnt.1 hno
  rw [List.findIdx_append,h0,if_neg (by omega)]
  simp [List.findIdx_cons]
 have hh:has (A++x :: B) x.id = true:=by unfold has;simp
 have hc0:Bk.canC (A++x :: B) x.id = 0:=by unfold Bk.canC;rw [if_pos hh]
 refine ⟨?_,hout,?_,by rw [hp];simp⟩
 ·unfold Bk.canL del
  rw [if_pos hc0,hp]
  simp
 ·rw [hp];unfold nth;simp
theorem drop_one {L:Nat→List Lot} {f:Nat→Int} {i:Nat} (hi:i < 3) {l:List Lot} {c:Int} {k:Nat} (H:FOk (upd L i (keepL c l k)) f) (ho:Once l) (hk:k < l.length) (hc:(nth l k).ow = c):FOk (upd L i (keepL c l (k + 1))) (freeF f i (nth l k)):=by
 obtain ⟨h1,_,h3,h4⟩:=keep_mine ho hk hc
 have hh:has (keepL c l k) (nth l k).id = true:=pos_has.2 h4
 have hc0:Bk.canC (keepL c l k) (nth l k).id = 0:=by unfold Bk.canC;rw [if_pos hh]
 have e:Bk.canL (keepL c l k) (nth l k).id = del (keepL c l k) (pos (keepL c l k) (nth l k).id):=by unfold Bk.canL;rw [if_pos hc0]
 have:=H.gone hi (k:=pos (keepL c l k) (nth l k).id) (by rw [upd_same];exact h4)
 rw [upd_same,h3,upd_upd,← e,h1] at this
 exact this
def dL (c:Int) (L:Nat→List Lot):Nat→Nat→List Lot
 | 0=>L
 | i + 1=>upd (dL c L i) i ((L i).filter (fun x=>!(x.ow == c)))
def dF (c:Int) (L:Nat→List Lot) (f:Nat→Int):Nat→Nat→Int
 | 0=>f
 | i + 1=>freeAll i (dF c L f i) ((L i).filter (fun x=>x.ow == c))
def dO (c:Int) (L:Nat→List Lot):Nat→List Lot
 | 0=>[]
 | i + 1=>dO c L i++(L i).filter (fun x=>x.ow == c)
theorem dL_at (c:Int) (L:Nat→List Lot):∀ i j,i≤j→dL c L i j = L j
 | 0,_,_=>rfl
 | i + 1,j,h=>by
  show upd (dL c L i) i _ j = L j
  rw [upd_ne _ _ (by omega),dL_at c L i j (by omega)]
theorem dO_len (c:Int) (L:Nat→List Lot) (h:∀ i,i < 3→(L i).length≤60):∀ i,i≤3→(dO c L i).length≤60 * i
 | 0,_=>Nat.le_refl _
 | i + 1,hi=>by
  have ih:=dO_len c L h i (by omega)
  have h1:=h i (by omega)
  have h2:=List.length_filter_le (fun x:Lot=>x.ow == c) (L i)
  show (dO c L i++_).length≤_
  rw [List.length_append];omega
end Fl
def az:Ask:=⟨0,0,0,0,0,0,0,0⟩
def anth (l:List Ask) (i:Nat):Ask:=l.getD i az
theorem anth_get {l:List Ask} {i:Nat} (h:i < l.length):l[i]? = some (anth l i):=by
 unfold anth
 rw [List.getD_eq_getElem?_getD,List.getElem?_eq_getElem h];rfl
namespace Ik
def upd {α:Type} (L:Nat→α) (i:Nat) (x:α):Nat→α:=fun j=>if j = i then x else L j
theorem upd_same {α:Type} (L:Nat→α) (i:Nat) (x:α):upd L i x i = x:=by simp [upd]
theorem upd_other {α:Type} (L:Nat→α) {i j:Nat} (x:α) (h:j≠i):upd L i x j = L j:=by simp [upd,h]
theorem upd_self {α:Type} (L:Nat→α) (i:Nat):upd L i (L i) = L:=by
 funext j
 unfold upd
 split <;> simp_all
def isC (c:Int):Bool:=decide (0≤c)&&decide (c≤5)
theorem isC_lt {c:Int} (h:isC c = true):∃ n:Nat,n < 6∧c = (n:Int):=by
 simp [isC] at h
 exact ⟨c.toNat,by omega,by omega⟩
def isK (a:Ask):Bool:=a.k == 111 || a.k == 99
def putC (L:Nat→List Ask) (a:Ask):Nat:=if isK a = true then (if isC a.c = true then (if 6≤(L a.c.toNat).length then 8 else 0) else 2) else 4
def putL (L:Nat→List Ask) (a:Ask):Nat→List Ask:=if putC L a = 0 then upd L a.c.toNat (L a.c.toNat++[a]) else L
def waitN (L:Nat→List Ask) (c:Int):Nat:=if isC c = true then (L c.toNat).length else 0
def clearL (L:Nat→List Ask) (c:Int):Nat→List Ask:=if isC c = true then upd L c.toNat [] else L
def who (t k:Nat):Nat:=(t + k) % 6
theorem who_lt (t k:Nat):who t k < 6:=Nat.mod_lt _ (by decide)
def drN (L:Nat→List Ask) (t:Nat):Nat→Nat→List Ask
 | 0=>L
 | k + 1=>upd (drN L t k) (who t k) ((drN L t k (who t k)).drop 2)
def ouN (L:Nat→List Ask) (t:Nat):Nat→List Ask
 | 0=>[]
 | k + 1=>ouN L t k++(drN L t k (who t k)).take 2
def drL (L:Nat→List Ask) (t:Nat):Nat→List Ask:=drN L t 6
def out (L:Nat→List Ask) (t:Nat):List Ask:=ouN L t 6
theorem drN_at (L:Nat→List Ask) {t:Nat} (ht:t < 6):∀ (k:Nat),k≤6→∀ c,drN L t k c = if c < 6∧(c + 6 - t) % 6 < k then (L c).drop 2 else L c
 | 0,_,c=>by simp [drN]
 | k + 1,hk,c=>by
  have ih:=drN_at L ht k (by omega)
  unfold drN
  by_cases h:c = who t k
  ·rw [h,upd_same,ih,if_neg,if_pos]
   ·refine ⟨who_lt t k,?_⟩
    unfold who;omega
   ·rintro ⟨_,h2⟩
    unfold who at h2;omega
  ·rw [upd_other _ _ h,ih]
   by_cases h6:c < 6
   ·have:(c + 6 - t) % 6≠k:=by
     intro e
     apply h
     unfold who;omega
    by_cases h2:(c + 6 - t) % 6 < k
    ·rw [if_pos ⟨h6,h2⟩,if_pos ⟨h6,by omega⟩]
    ·rw [if_neg (fun h=>h2 h.2),if_neg (fun h=>by have:=h.2;omega)]
   ·rw [if_neg (fun h=>h6 h.1),if_neg (fun h=>h6 h.1)]
theorem drL_at (L:Nat→List Ask) {t:Nat} (ht:t < 6) {c:Nat} (hc:c < 6):drL L t c = (L c).drop 2:=by
 unfold drL
 rw [drN_at L ht 6 (by decide),if_pos ⟨hc,Nat.mod_lt _ (by decide)⟩]
theorem dr_who (L:Nat→List Ask) {t:Nat} (ht:t < 6) {k:Nat} (hk:k < 6):drN L t k (who t k) = L (who t k):=by
 rw [drN_at L ht k (by omega),if_neg]
 rintro ⟨_,h⟩
 unfold who at h;omega
theorem ouN_succ (L:Nat→List Ask) {t:Nat} (ht:t < 6) {k:Nat} (hk:k < 6):ouN L t (k + 1) = ouN L t k++(L (who t k)).take 2:=by
 rw [← dr_who L ht hk];rfl
theorem ouN_len (L:Nat→List Ask) (t:Nat):∀ k,(ouN L t k).length≤2 * k
 | 0=>by simp [ouN]
 | k + 1=>by
  have:=ouN_len L t k
  simp only [ouN,List.length_append,List.length_take]
  omega
end Ik
namespace Fl
open Cv Bk Ra Pu Fu Fs
end Fl
end Go.Proofs.YtidahfhingdlmaaGreatDoor
