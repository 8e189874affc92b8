/- Two slices of reports that hold the same; two texts that are the same. -/
import Derived.Test.YtidahfhingdlmaaGreatDoorU37
namespace Go.Proofs.YtidahfhingdlmaaGreatDoor
open Go.RowKit
set_option maxRecDepth 100000
def rz:Ve.Rep:=⟨0,⟨#[]⟩,0,0,0,0⟩
def rnth (l:List Ve.Rep) (i:Nat):Ve.Rep:=l.getD i rz
def RepsAt (w:World) (b o:Nat) (l:List Ve.Rep):Prop:=∀ i,i < l.length→w.cell? ⟨b,o + i * 6,none⟩ = some (.int .i64 (rnth l i).c)∧w.cell? ⟨b,o + i * 6 + 1,none⟩ = some (.string (rnth l i).k)∧w.cell? ⟨b,o + i * 6 + 2,none⟩ = some (.int .i64 (rnth l i).id)∧w.cell? ⟨b,o + i * 6 + 3,none⟩ = some (.int .i64 (rnth l i).pr)∧w.cell? ⟨b,o + i * 6 + 4,none⟩ = some (.int .i64 (rnth l i).q)∧w.cell? ⟨b,o + i * 6 + 5,none⟩ = some (.int .i64 (rnth l i).cd)
theorem RepsAt.later {w w':World} {b o:Nat} {l:List Ve.Rep} (h:RepsAt w b o l) (hb:Below w.heap.size w w'):RepsAt w' b o l:=fun i hi=>by
 obtain ⟨h0,h1,h2,h3,h4,h5⟩:=h i hi
 exact ⟨cell_later hb h0,cell_later hb h1,cell_later hb h2,cell_later hb h3,cell_later hb h4,cell_later hb h5⟩
theorem rflat_at:∀ (l:List Ve.Rep) (i j:Nat),i < l.length→j < 6→(rflat l)[i * 6 + j]? = (repC (rnth l i))[j]?
 | [],i,j,h,_=>by cases h
 | x :: l,0,j,_,hj=>by
  unfold rflat
  rw [List.flatMap_cons,List.getElem?_append_left (by simpa [repC] using by omega)]
  simp [rnth]
 | x :: l,i + 1,j,h,hj=>by
  have ih:=rflat_at l i j (by simpa using h) hj
  unfold rflat at *
  rw [List.flatMap_cons,List.getElem?_append_right (by simp [repC];omega)]
  have e:(i + 1) * 6 + j - (repC x).length = i * 6 + j:=by simp [repC];omega
  rw [e,ih]
  rfl
theorem row_reps {w:World} {base:Nat} {v:Value} {l:List Ve.Rep} (h:Reps w base v l):(v = .slice none 0 0∧l = [])∨∃ g cap,v = .slice (some ⟨g,0,none⟩) l.length cap∧RepsAt w g 0 l:=by
 have h':w.ownsRow base 50 6 v l.length (rflat l):=h
 rcases h'.2 with ⟨e,e2⟩ | ⟨g,cap,cur,e,hg,hgg,hle,_,_,_⟩
 ·exact .inl ⟨e,List.eq_nil_of_length_eq_zero e2⟩
 ·have key:∀ i j u,i < l.length→j < 6→(repC (rnth l i))[j]? = some u→w.cell? ⟨g,0 + i * 6 + j,none⟩ = some u:=fun i j u hi hj hu=>by
   have:=World.ownsRow.cells h' (g:=g) (by rw [e];rfl) (i * 6 + j) u (by rw [rflat_at l i j hi hj];exact hu)
   have hp:(⟨g,0,none⟩:Addr).add (i * 6 + j) = ⟨g,0 + i * 6 + j,none⟩:=by unfold Addr.add;split <;> simp_all
   rwa [hp] at this
  refine .inr ⟨g,cap,e,fun i hi=>⟨?_,?_,?_,?_,?_,?_⟩⟩
  ·exact key i 0 _ hi (by decide) rfl
  ·exact key i 1 _ hi (by decide) rfl
  ·exact key i 2 _ hi (by decide) rfl
  ·exact key i 3 _ hi (by decide) rfl
  ·exact key i 4 _ hi (by decide) rfl
  ·exact key i 5 _ hi (by decide) rfl
theorem alike_none (c1 c2:Nat) (a1 a2:Option Addr) (w:World):Calls Tryz.prog 27 #[.slice a1 0 c1,.slice a2 0 c2] w fun e w'=>e = .returned (.int .i64 1)∧Below w.heap.size w w':=by
 go_enter Tryz.func27,Tryz.ntmps27
 go_wp2
 refine wp_loop_rounds 1 ?_
 rw [rounds_succ]
 go_wp2
 go_ret
 exact ⟨rfl,Below.refl _ _⟩
set_option maxHeartbeats 1000000 in
theorem alike_cells (b1 o1 b2 o2 c1 c2 n:Nat) (l:List Ve.Rep) (w:World) (hn:n≤10000000) (hl:Hid (l.length = n)) (h1:Hid (RepsAt w b1 o1 l)) (h2:Hid (RepsAt w b2 o2 l)) :
  Calls Tryz.prog 27 #[.slice (some ⟨b1,o1,none⟩) n c1,.slice (some ⟨b2,o2,none⟩) n c2] w fun e w'=>e = .returned (.int .i64 1)∧Below w.heap.size w w':=by
 go_enter Tryz.func27,Tryz.ntmps27
 go_wp2
 go_loopw [5] (fun i wr=>∃ k:Nat,k≤n∧i = .int .i64 k∧Below w.heap.size w wr) (fun i _=>n - (intOf i).toNat)
 case atStart=>exact ⟨0,by omega,rfl,Below.refl _ _⟩
 case round =>
  obtain ⟨k,hk,rfl,hb⟩:=hrel
  have HB:=hide hb
  clear hb
  by_cases hlt:k < n
  ·obtain ⟨c0,c1,c2,c3,c4,c5⟩:=(h1.out.later HB.out) k (by rw [hl.out];exact hlt)
   obtain ⟨d0,d1,d2,d3,d4,d5⟩:=(h2.out.later HB.out) k (by rw [hl.out];exact hlt)
   have hki:(k:Int) < n:=by omega
   generalize rnth l k = x at *
   go_wp2
   go_quiet (fail)
   go_wp2
   exact ⟨⟨k + 1,by omega,by go_num,HB.out.trans ((blw_drew nq).mono HB.out.size)⟩,by simp [intOf];omega⟩
  ·go_wp2
   go_ret
   exact ⟨rfl,HB.out⟩
theorem alike_same {base base':Nat} (v1 v2:Value) (l:List Ve.Rep) (w:World) (hn:l.length≤10000000) (h1:Reps w base v1 l) (h2:Reps w base' v2 l) :
  Calls Tryz.prog 27 #[v1,v2] w fun e w'=>e = .returned (.int .i64 1)∧Below w.heap.size w w':=by
 rcases row_reps h1 with ⟨rfl,e⟩ | ⟨g1,c1,rfl,a1⟩
 ·rcases row_reps h2 with ⟨rfl,_⟩ | ⟨g2,c2,rfl,a2⟩
  ·exact alike_none _ _ _ _ w
  ·subst e;exact alike_none _ _ _ _ w
 ·rcases row_reps h2 with ⟨rfl,e⟩ | ⟨g2,c2,rfl,a2⟩
  ·subst e;exact alike_none _ _ _ _ w
  ·exact alike_cells g1 0 g2 0 c1 c2 _ l w hn rfl a1 a2
end Go.Proofs.YtidahfhingdlmaaGreatDoor
