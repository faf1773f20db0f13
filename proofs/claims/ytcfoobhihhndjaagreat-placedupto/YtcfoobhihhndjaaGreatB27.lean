import Derived.Shelf.SlSortCmp.WholeK
import Derived.Shelf.SlSortCmp.NoneTotal
import Derived.Shelf.SlicesG.Cmp
import Derived.Shelf.Lay
import Derived.Ground.SlsfProg
import Derived.Ground.SlgcProg
import Derived.Test.YtcfoobhihhndjaaGreatB01
import Derived.Test.YtcfoobhihhndjaaGreatProg
namespace Go.Proofs
open Go.Shelf
shelf_lay_g SlLaysF0.n6 Slsf 6 at Tryz 114 as Tryz.lsort
shelf_lay_g SlLaysC2.n5 Slgc 5 at Tryz 116 as Tryz.lcmp
end Go.Proofs
namespace Go.Proofs.YtcfoobhihhndjaaGreat
open Go.Shelf Go.RowKit Go.Lib Go.Sort

def cmpOd (x y:Od):Int:=Lib.compareInt x.id y.id

theorem ltOd (x y:Od):ltOf cmpOd x y=decide (x.id<y.id):=by
  unfold ltOf cmpOd Lib.compareInt
  by_cases h1:x.id<y.id
  · simp [h1]
  · by_cases h2:y.id<x.id <;> simp [h1,h2]

theorem swoOd:SWO (ltOf cmpOd) where
  irrefl x:=by rw [ltOd];simp
  trans x y z h1 h2:=by rw [ltOd] at *;simp at *;omega
  ntrans x y z h1 h2:=by rw [ltOd] at *;simp at *;omega

set_option maxHeartbeats 1000000 in
theorem cmp_any (x y:Od) (W:World):Calls Tryz.prog 115 #[.agg x.cells.toArray,.agg y.cells.toArray] W fun e w'=>e = .returned (.int .i64 (cmpOd x y))∧∃ q os',w'=grow (W.drewN q) os':=by
  have hcon:=fun W'=>AnyG.cmp_Compare_int Tryz.lcmp x.id y.id W'
  change ∀ W',Calls Tryz.prog 116 _ _ _ at hcon
  unfold cmpOd
  generalize Lib.compareInt x.id y.id=r at hcon ⊢
  simp only [Od.cells]
  go_enter Tryz.func115,Tryz.ntmps115
  go_wp2_with (go_at_call 116;refine (hcon _).mono ?_;rintro e w' ⟨rfl,rfl⟩)
  go_ret
  exact ⟨rfl,0,_,by rw [alloc_eq_grow,alloc_eq_grow,grow_grow];rfl⟩

theorem cmpLays [Inhabited Od] (blk off size:Nat) (w:World):CmpLays Tryz.prog 115 #[] Od.cells 8 cmpOd blk off size w :=
  fun _ _ _ _ x y=>cmp_any x y _

theorem sort_any [Inhabited Od] (blk off cap:Nat) (d:Array Od) (w:World) (hH:HoldsK Od.cells 8 w blk off d) (hblk:blk<w.heap.size) (hsz:d.size<4611686018427387904) :
    Calls Tryz.prog 114 #[.slice (some ⟨blk,off,none⟩) d.size cap,.func (.func 115) #[] #[]] w fun e w'=>e = .returned (.tuple #[])∧∃ d' n os,PermIn 0 d.size d d'∧SortedIn (ltOf cmpOd) 0 d.size d'∧w'=sortWorldK Od.cells 8 w blk off n d' os:=by
  have eg:∀ args w,(callFunc 115 args).run Tryz.prog w = .ok (.enter 115 args) w:=enters_of Tryz.func115 (by kernel_rfl) rfl
  exact AnyQ.slices_SortFunc Tryz.lsort 8 Tryz.isAgg40 Tryz.sizeOf40 Od.cells (fun _=>rfl) (fun x v hv=>by simp [Od.cells] at hv;rcases hv with rfl | rfl | rfl | rfl | rfl | rfl | rfl | rfl <;> rfl) cmpOd swoOd 115 #[] blk off cap d w eg (cmpLays blk off d.size w) hH hblk hsz

end Go.Proofs.YtcfoobhihhndjaaGreat
