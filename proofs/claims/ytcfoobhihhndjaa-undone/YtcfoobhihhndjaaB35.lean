/- The program's sort of orders by their numbers. -/
import Derived.Shelf.SlSortCmp.WholeK
import Derived.Shelf.SlSortCmp.NoneTotal
import Derived.Shelf.SlicesG.Cmp
import Derived.Shelf.Lay
import Derived.Ground.SlsfProg
import Derived.Ground.SlgcProg
import Derived.Test.YtcfoobhihhndjaaB01
import Derived.Test.YtcfoobhihhndjaaProg
namespace Go.Proofs
open Go.Shelf
shelf_lay_g SlLaysF0.n6 Slsf 6 at Try 39 as Try.lsort
shelf_lay_g SlLaysC2.n5 Slgc 5 at Try 41 as Try.lcmp
end Go.Proofs
namespace Go.Proofs.Ytcfoobhihhndjaa
open Go.Shelf Go.RowKit Go.Lib Go.Sort

def cmpOd (x y : Od) : Int := Lib.compareInt x.id y.id

theorem ltOd (x y : Od) : ltOf cmpOd x y = decide (x.id < y.id) := by
  unfold ltOf cmpOd Lib.compareInt
  by_cases h1 : x.id < y.id
  · simp [h1]
  · by_cases h2 : y.id < x.id <;> simp [h1, h2]

theorem swoOd : SWO (ltOf cmpOd) where
  irrefl x := by rw [ltOd]; simp
  trans x y z h1 h2 := by rw [ltOd] at *; simp at *; omega
  ntrans x y z h1 h2 := by rw [ltOd] at *; simp at *; omega

set_option maxHeartbeats 1000000 in
theorem cmp_any (x y : Od) (W : World) : Calls Try.prog 40 #[.agg x.cells.toArray, .agg y.cells.toArray] W fun e w' => e = .returned (.int .i64 (cmpOd x y)) ∧ ∃ q os', w' = grow (W.drewN q) os' := by
  have hcon := fun W' => AnyG.cmp_Compare_int Try.lcmp x.id y.id W'
  change ∀ W', Calls Try.prog 41 _ _ _ at hcon
  unfold cmpOd
  generalize Lib.compareInt x.id y.id = r at hcon ⊢
  simp only [Od.cells]
  go_enter Try.func40, Try.ntmps40
  go_wp2_with (go_at_call 41; refine (hcon _).mono ?_; rintro e w' ⟨rfl, rfl⟩)
  go_ret
  exact ⟨rfl, 0, _, by rw [alloc_eq_grow, alloc_eq_grow, grow_grow]; rfl⟩

theorem cmpLays [Inhabited Od] (blk off size : Nat) (w : World) : CmpLays Try.prog 40 #[] Od.cells 8 cmpOd blk off size w :=
  fun _ _ _ _ x y => cmp_any x y _

theorem sort_any [Inhabited Od] (blk off cap : Nat) (d : Array Od) (w : World) (hH : HoldsK Od.cells 8 w blk off d) (hblk : blk < w.heap.size) (hsz : d.size < 4611686018427387904) :
    Calls Try.prog 39 #[.slice (some ⟨blk, off, none⟩) d.size cap, .func (.func 40) #[] #[]] w fun e w' => e = .returned (.tuple #[]) ∧ ∃ d' n os, PermIn 0 d.size d d' ∧ SortedIn (ltOf cmpOd) 0 d.size d' ∧ w' = sortWorldK Od.cells 8 w blk off n d' os := by
  have eg : ∀ args w, (callFunc 40 args).run Try.prog w = .ok (.enter 40 args) w := enters_of Try.func40 (by kernel_rfl) rfl
  exact AnyQ.slices_SortFunc Try.lsort 8 Try.isAgg42 Try.sizeOf42 Od.cells (fun _ => rfl) (fun x v hv => by simp [Od.cells] at hv; rcases hv with rfl | rfl | rfl | rfl | rfl | rfl | rfl | rfl <;> rfl) cmpOd swoOd 40 #[] blk off cap d w eg (cmpLays blk off d.size w) hH hblk hsz

end Go.Proofs.Ytcfoobhihhndjaa
