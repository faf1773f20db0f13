
import Derived.Test.YtcfoobhihhndjaaGreatB21
namespace Go.Proofs.YtcfoobhihhndjaaGreat

section
open Go.RowKit Go.Sort

def gbA (B G h:Nat):Nat:=B+1+h * (1+2 * G)
def qbA (B G h g s:Nat):Nat:=gbA B G h+1+2 * g+s

theorem gbA_succ (B G h:Nat):gbA B G (h+1)=gbA B G h+1+2 * G:=by unfold gbA;rw [Nat.add_mul];omega
theorem gbA_mono (B G:Nat):∀ {h k:Nat},h<k→gbA B G h+1+2 * G≤gbA B G k
  | h,0,hk=>by omega
  | h,k+1,hk=>by
    rw [gbA_succ]
    by_cases e:h=k
    · subst e;omega
    · have:=gbA_mono B G (h:=h) (k:=k) (by omega);omega
theorem gbA_le (B G h:Nat):B<gbA B G h:=by unfold gbA;omega

structure NBh (B G h k:Nat) (W:World):Prop where
  sd:∀ g s,g<k→s<2→Own W ⟨gbA B G h,g * 5+s,none⟩ (.pointer (some ⟨qbA B G h g s,0,none⟩))
  nl:∀ g s,k≤g→g<G→s<2→Own W ⟨gbA B G h,g * 5+s,none⟩ (.pointer none)
  nm:∀ g i,g<G→i<3→Own W ⟨gbA B G h,g * 5+2+i,none⟩ (.int .i64 0)
  q0:∀ g s,g<k→s<2→W.cell? ⟨qbA B G h g s,0,none⟩=some (aheadFn s)
  q1:∀ g s,g<k→s<2→Own W ⟨qbA B G h g s,1,none⟩ (.slice none 0 0)

theorem NBh.kep {B G h k:Nat} {W W':World} {S:Nat→Prop} (H:NBh B G h k W) (hk:k≤G) (K:Kep S W W') (hS:∀ b,gbA B G h≤b→b<gbA B G h+1+2 * G→¬ S b):NBh B G h k W':=by
  have a:¬ S (gbA B G h):=hS _ (Nat.le_refl _) (by omega)
  have b:∀ g s,g<k→s<2→¬ S (qbA B G h g s):=fun g s hg hs=>hS _ (by unfold qbA;omega) (by unfold qbA;omega)
  exact ⟨fun g s hg hs=>(H.sd g s hg hs).kep K a,fun g s h1 h2 hs=>(H.nl g s h1 h2 hs).kep K a,fun g i hg hi=>(H.nm g i hg hi).kep K a,fun g s hg hs=>K.cell (H.q0 g s hg hs) (b g s hg hs),fun g s hg hs=>(H.q1 g s hg hs).kep K (b g s hg hs)⟩

def bkRow (B G j h:Nat):Value:=if h<j then .slice (some ⟨gbA B G h,0,none⟩) G G else .slice none 0 0

structure NBo (w:World) (G H j:Nat) (W:World):Prop where
  kp:Kep non w W
  sz:W.heap.size=gbA w.heap.size G j
  bb:∀ h,h<H→Own W ⟨w.heap.size,h,none⟩ (bkRow w.heap.size G j h)
  hs:∀ h,h<j→NBh w.heap.size G h G W

structure NBi (w:World) (G H j k:Nat) (W:World):Prop where
  kp:Kep non w W
  sz:W.heap.size=gbA w.heap.size G j+1+2 * k
  bb:∀ h,h<H→Own W ⟨w.heap.size,h,none⟩ (bkRow w.heap.size G (j+1) h)
  hs:∀ h,h<j→NBh w.heap.size G h G W
  hj:NBh w.heap.size G j k W

def booksBlock (G:Nat):Obj:=.cells (madeCells #[.pointer none,.pointer none,.int .i64 0,.int .i64 0,.int .i64 0] (G * 5)) 149
def rowsBlock (H:Nat):Obj:=.cells (madeCells #[.slice none 0 0] (H * 1)) 159

theorem books_at {w:World} {B G:Nat} (h:w.heap[B]? = some (booksBlock G)) (g i:Nat) (hg:g<G) (hi:i<5):Own w ⟨B,g * 5+i,none⟩ (if i<2 then .pointer none else .int .i64 0):=by
  refine ⟨?_,frozen_of_row w B _ _ _ h⟩
  rw [cell_of_row w B _ _ _ _ h]
  have hk:g * 5+i<G * 5:=by omega
  have hm:(g * 5+i) % 5=i:=by omega
  simp only [madeCells]
  simp [hk,hm]
  rcases i with _ | _ | _ | _ | _ | i
  all_goals first | rfl | omega

theorem rows_at {w:World} {B H:Nat} (h:w.heap[B]? = some (rowsBlock H)) (i:Nat) (hi:i<H):Own w ⟨B,i,none⟩ (.slice none 0 0):=by
  refine ⟨?_,frozen_of_row w B _ _ _ h⟩
  rw [cell_of_row w B _ _ _ _ h]
  have hk:i<H * 1:=by omega
  simp only [madeCells]
  simp [hi]
  rw [Nat.mod_one]
  rfl

theorem NBo.start (w:World) (G H:Nat):NBo w G H 0 (w.alloc (rowsBlock H)) :=
  ⟨(Kep.refl _ _).alloc _,by simp [gbA],fun h hh=>by simpa [bkRow] using rows_at (heap_alloc_new w (rowsBlock H)) h hh,fun h hh=>by omega⟩

theorem NBo.make {w:World} {G H j:Nat} {W:World} (N:NBo w G H j W) (hj:j<H) :
    NBi w G H j 0 ((W.alloc (booksBlock G)).setCell ⟨w.heap.size,j,none⟩ (.slice (some ⟨W.heap.size,0,none⟩) G G)):=by
  have hz:=N.sz
  have hB:=gbA_le w.heap.size G j
  have k1:Kep non W (W.alloc (booksBlock G)):=(Kep.refl _ _).alloc _
  have n:∀ b,¬ non b:=fun _ f=>f
  have k2:Kep (fun b=>b=w.heap.size) (W.alloc (booksBlock G)) ((W.alloc (booksBlock G)).setCell ⟨w.heap.size,j,none⟩ (.slice (some ⟨W.heap.size,0,none⟩) G G)):=(Kep.refl (fun b=>b=w.heap.size) _).setCell (p:=⟨w.heap.size,j,none⟩) (.inl rfl) _
  have hb:=heap_alloc_new W (booksBlock G)
  rw [hz] at hb
  refine ⟨(N.kp.trans k1).setCell (p:=⟨w.heap.size,j,none⟩) (.inr (Nat.le_refl _)) _,by simp;omega,fun h hh=>?_,fun h hh=>?_,?_⟩
  · by_cases e:h=j
    · subst e
      have:=((N.bb h hh).kep k1 (n _)).set (v:=bkRow w.heap.size G h h) rfl (.slice (some ⟨W.heap.size,0,none⟩) G G)
      simpa [bkRow,hz] using this
    · have:=((N.bb h hh).kep k1 (n _)).set_other (q:=⟨w.heap.size,j,none⟩) (by intro q;injection q with _ q _;exact e q) rfl rfl (.slice (some ⟨W.heap.size,0,none⟩) G G)
      have e2:bkRow w.heap.size G (j+1) h=bkRow w.heap.size G j h:=by
        unfold bkRow
        by_cases q:h<j
        · rw [if_pos q,if_pos (by omega)]
        · rw [if_neg q,if_neg (by omega)]
      rw [e2]
      exact this
  · have:=gbA_mono w.heap.size G hh
    have h0:=gbA_le w.heap.size G h
    exact ((N.hs h hh).kep (Nat.le_refl _) k1 (fun _ _ _=>n _)).kep (Nat.le_refl _) k2 (fun b h1 _ f=>by omega)
  · have hk:∀ {o:Nat} {v:Value},Own (W.alloc (booksBlock G)) ⟨gbA w.heap.size G j,o,none⟩ v→Own ((W.alloc (booksBlock G)).setCell ⟨w.heap.size,j,none⟩ (.slice (some ⟨W.heap.size,0,none⟩) G G)) ⟨gbA w.heap.size G j,o,none⟩ v:=fun h=>h.kep k2 (by show ¬ gbA w.heap.size G j=w.heap.size;omega)
    refine ⟨fun g s hg=>by omega,fun g s _ hg hs=>?_,fun g i hg hi=>?_,fun g s hg=>by omega,fun g s hg=>by omega⟩
    · have:=books_at hb g s hg (by omega)
      rw [if_pos hs] at this
      exact hk this
    · have:=books_at hb g (2+i) hg (by omega)
      rw [if_neg (by omega),← Nat.add_assoc] at this
      exact hk this

def queueBlock (s:Nat):Obj:=.cells #[aheadFn s,.slice none 0 0] 156

structure NBq (w:World) (G H j k:Nat) (W:World):Prop where
  kp:Kep non w W
  sz:W.heap.size=gbA w.heap.size G j+1+2 * k+1
  bb:∀ h,h<H→Own W ⟨w.heap.size,h,none⟩ (bkRow w.heap.size G (j+1) h)
  hs:∀ h,h<j→NBh w.heap.size G h G W
  sd:∀ g s,g<k→s<2→Own W ⟨gbA w.heap.size G j,g * 5+s,none⟩ (.pointer (some ⟨qbA w.heap.size G j g s,0,none⟩))
  s0:Own W ⟨gbA w.heap.size G j,k * 5,none⟩ (.pointer (some ⟨qbA w.heap.size G j k 0,0,none⟩))
  s1:Own W ⟨gbA w.heap.size G j,k * 5+1,none⟩ (.pointer none)
  nl:∀ g s,k<g→g<G→s<2→Own W ⟨gbA w.heap.size G j,g * 5+s,none⟩ (.pointer none)
  nm:∀ g i,g<G→i<3→Own W ⟨gbA w.heap.size G j,g * 5+2+i,none⟩ (.int .i64 0)
  q0:∀ g s,g<k→s<2→W.cell? ⟨qbA w.heap.size G j g s,0,none⟩=some (aheadFn s)
  q1:∀ g s,g<k→s<2→Own W ⟨qbA w.heap.size G j g s,1,none⟩ (.slice none 0 0)
  r0:W.cell? ⟨qbA w.heap.size G j k 0,0,none⟩=some (aheadFn 0)
  r1:Own W ⟨qbA w.heap.size G j k 0,1,none⟩ (.slice none 0 0)

theorem NBi.first {w:World} {G H j k:Nat} {W:World} (N:NBi w G H j k W) (hk:k<G) :
    NBq w G H j k ((W.alloc (queueBlock 0)).setCell ⟨gbA w.heap.size G j,k * 5,none⟩ (.pointer (some ⟨W.heap.size,0,none⟩))):=by
  have hz:=N.sz
  have hB:=gbA_le w.heap.size G j
  have k1:Kep non W (W.alloc (queueBlock 0)):=(Kep.refl _ _).alloc _
  have n:∀ b,¬ non b:=fun _ f=>f
  have k2:Kep (fun b=>b=gbA w.heap.size G j) (W.alloc (queueBlock 0)) ((W.alloc (queueBlock 0)).setCell ⟨gbA w.heap.size G j,k * 5,none⟩ (.pointer (some ⟨W.heap.size,0,none⟩))):=(Kep.refl (fun b=>b=gbA w.heap.size G j) _).setCell (p:=⟨gbA w.heap.size G j,k * 5,none⟩) (.inl rfl) _
  have hb:=heap_alloc_new W (queueBlock 0)
  have oc:∀ {o:Nat} {v:Value},o≠k * 5→Own W ⟨gbA w.heap.size G j,o,none⟩ v→Own ((W.alloc (queueBlock 0)).setCell ⟨gbA w.heap.size G j,k * 5,none⟩ (.pointer (some ⟨W.heap.size,0,none⟩))) ⟨gbA w.heap.size G j,o,none⟩ v:=fun ho h=>(h.kep k1 (n _)).set_other (by intro q;injection q with _ q _;exact ho q) rfl rfl _
  have e0:qbA w.heap.size G j k 0=W.heap.size:=by unfold qbA;omega
  have qn:∀ g s,qbA w.heap.size G j g s≠gbA w.heap.size G j:=fun g s=>by unfold qbA;omega
  refine ⟨(N.kp.trans k1).setCell (p:=⟨gbA w.heap.size G j,k * 5,none⟩) (.inr (by simp only [];omega)) _,by simp;omega,fun h hh=>((N.bb h hh).kep k1 (n _)).kep k2 (by show ¬ w.heap.size=gbA w.heap.size G j;omega),fun h hh=>?_,fun g s hg hs=>oc (by omega) (N.hj.sd g s hg hs),?_,oc (by omega) (N.hj.nl k 1 (Nat.le_refl _) hk (by omega)),fun g s h1 h2 hs=>oc (by omega) (N.hj.nl g s (by omega) h2 hs),fun g i hg hi=>oc (by omega) (N.hj.nm g i hg hi),fun g s hg hs=>k2.cell (k1.cell (N.hj.q0 g s hg hs) (n _)) (qn g s),fun g s hg hs=>((N.hj.q1 g s hg hs).kep k1 (n _)).kep k2 (qn g s),?_,?_⟩
  · have:=gbA_mono w.heap.size G hh
    exact ((N.hs h hh).kep (Nat.le_refl _) k1 (fun _ _ _=>n _)).kep (Nat.le_refl _) k2 (fun b h1 h2 f=>by omega)
  · rw [e0]
    exact ((N.hj.nl k 0 (Nat.le_refl _) hk (by omega)).kep k1 (n _)).set rfl _
  · have c:=cell_of_row _ _ 0 _ _ _ hb
    rw [e0]
    exact k2.cell (p:=⟨W.heap.size,0,none⟩) c (by have:=qn k 0;rw [e0] at this;exact this)
  · have c:=cell_of_row _ _ 1 _ _ _ hb
    have f:=frozen_of_row _ _ 1 _ _ hb
    rw [e0]
    exact (Own.mk (p:=⟨W.heap.size,1,none⟩) c f).kep k2 (by have:=qn k 0;rw [e0] at this;exact this)

theorem NBq.second {w:World} {G H j k:Nat} {W:World} (N:NBq w G H j k W) (hk:k<G) :
    NBi w G H j (k+1) ((W.alloc (queueBlock 1)).setCell ⟨gbA w.heap.size G j,k * 5+1,none⟩ (.pointer (some ⟨W.heap.size,0,none⟩))):=by
  have hz:=N.sz
  have hB:=gbA_le w.heap.size G j
  have k1:Kep non W (W.alloc (queueBlock 1)):=(Kep.refl _ _).alloc _
  have n:∀ b,¬ non b:=fun _ f=>f
  have k2:Kep (fun b=>b=gbA w.heap.size G j) (W.alloc (queueBlock 1)) ((W.alloc (queueBlock 1)).setCell ⟨gbA w.heap.size G j,k * 5+1,none⟩ (.pointer (some ⟨W.heap.size,0,none⟩))):=(Kep.refl (fun b=>b=gbA w.heap.size G j) _).setCell (p:=⟨gbA w.heap.size G j,k * 5+1,none⟩) (.inl rfl) _
  have hb:=heap_alloc_new W (queueBlock 1)
  have oc:∀ {o:Nat} {v:Value},o≠k * 5+1→Own W ⟨gbA w.heap.size G j,o,none⟩ v→Own ((W.alloc (queueBlock 1)).setCell ⟨gbA w.heap.size G j,k * 5+1,none⟩ (.pointer (some ⟨W.heap.size,0,none⟩))) ⟨gbA w.heap.size G j,o,none⟩ v:=fun ho h=>(h.kep k1 (n _)).set_other (by intro q;injection q with _ q _;exact ho q) rfl rfl _
  have e1:qbA w.heap.size G j k 1=W.heap.size:=by unfold qbA;omega
  have qn:∀ g s,qbA w.heap.size G j g s≠gbA w.heap.size G j:=fun g s=>by unfold qbA;omega
  refine ⟨(N.kp.trans k1).setCell (p:=⟨gbA w.heap.size G j,k * 5+1,none⟩) (.inr (by simp only [];omega)) _,by simp;omega,fun h hh=>((N.bb h hh).kep k1 (n _)).kep k2 (by show ¬ w.heap.size=gbA w.heap.size G j;omega),fun h hh=>?_,?_⟩
  · have:=gbA_mono w.heap.size G hh
    exact ((N.hs h hh).kep (Nat.le_refl _) k1 (fun _ _ _=>n _)).kep (Nat.le_refl _) k2 (fun b h1 h2 f=>by omega)
  · refine ⟨fun g s hg hs=>?_,fun g s h1 h2 hs=>oc (by omega) (N.nl g s (by omega) h2 hs),fun g i hg hi=>oc (by omega) (N.nm g i hg hi),fun g s hg hs=>?_,fun g s hg hs=>?_⟩
    · by_cases e:g=k
      · subst e
        rcases s with _ | _ | s
        · exact oc (by omega) N.s0
        · have:=(N.s1.kep k1 (n _)).set rfl (.pointer (some ⟨W.heap.size,0,none⟩))
          rw [show (0:Nat)+1=1 from rfl,e1]
          exact this
        · omega
      · exact oc (by omega) (N.sd g s (by omega) hs)
    · by_cases e:g=k
      · subst e
        rcases s with _ | _ | s
        · exact k2.cell (k1.cell N.r0 (n _)) (qn g 0)
        · have c:=cell_of_row _ _ 0 _ _ _ hb
          rw [show (0:Nat)+1=1 from rfl,e1]
          exact k2.cell (p:=⟨W.heap.size,0,none⟩) c (by have:=qn g 1;rw [e1] at this;exact this)
        · omega
      · exact k2.cell (k1.cell (N.q0 g s (by omega) hs) (n _)) (qn g s)
    · by_cases e:g=k
      · subst e
        rcases s with _ | _ | s
        · exact (N.r1.kep k1 (n _)).kep k2 (qn g 0)
        · have c:=cell_of_row _ _ 1 _ _ _ hb
          have f:=frozen_of_row _ _ 1 _ _ hb
          rw [show (0:Nat)+1=1 from rfl,e1]
          exact (Own.mk (p:=⟨W.heap.size,1,none⟩) c f).kep k2 (by have:=qn g 1;rw [e1] at this;exact this)
        · omega
      · exact ((N.q1 g s (by omega) hs).kep k1 (n _)).kep k2 (qn g s)

theorem NBi.done {w:World} {G H j:Nat} {W:World} (N:NBi w G H j G W):NBo w G H (j+1) W:=by
  refine ⟨N.kp,by rw [gbA_succ,N.sz],N.bb,fun h hh=>?_⟩
  by_cases e:h=j
  · subst e;exact N.hj
  · exact N.hs h (by omega)

theorem NBi.later {w:World} {G H j i:Nat} {W W':World} (N:NBi w G H j i W) (hi:i≤G) (k:Kep non W W') (hz:W'.heap.size=W.heap.size):NBi w G H j i W' :=
  ⟨N.kp.trans k,by rw [hz];exact N.sz,fun h hh=>(N.bb h hh).kep k (fun f=>f),fun h hh=>(N.hs h hh).kep (Nat.le_refl _) k (fun _ _ _ f=>f),N.hj.kep hi k (fun _ _ _ f=>f)⟩
theorem NBq.later {w:World} {G H j i:Nat} {W W':World} (N:NBq w G H j i W) (k:Kep non W W') (hz:W'.heap.size=W.heap.size):NBq w G H j i W' :=
  have n:∀ b,¬ non b:=fun _ f=>f
  ⟨N.kp.trans k,by rw [hz];exact N.sz,fun h hh=>(N.bb h hh).kep k (n _),fun h hh=>(N.hs h hh).kep (Nat.le_refl _) k (fun _ _ _=>n _),fun g s a b=>(N.sd g s a b).kep k (n _),N.s0.kep k (n _),N.s1.kep k (n _),fun g s a b c=>(N.nl g s a b c).kep k (n _),fun g s a b=>(N.nm g s a b).kep k (n _),fun g s a b=>k.cell (N.q0 g s a b) (n _),fun g s a b=>(N.q1 g s a b).kep k (n _),k.cell N.r0 (n _),N.r1.kep k (n _)⟩

set_option maxHeartbeats 4000000 in
set_option maxRecDepth 100000 in
theorem newBooks_any (w:World) (G H:Nat) (hG:G≤4) (hH:H≤4) :
    Calls Tryz.prog 81 #[.int .i64 H,.int .i64 G] w fun e w'=>e = .returned (.slice (some ⟨w.heap.size,0,none⟩) H H)∧NBo w G H H w':=by
  obtain ⟨i0,hi0,hz0,hz1,hz2⟩:=info_parts infoBooks
  obtain ⟨i1,hi1,hy0,hy1,hy2⟩:=info_parts infoBook
  have hmk:∀ u:World,(Instr.makeSlice 90 (.int .i64 (H:Int)) (.int .i64 (H:Int))).run Tryz.prog u = .ok (.slice (some ⟨u.heap.size,0,none⟩) H H) (u.alloc (rowsBlock H)):=fun u=>by
    have h:=run_make (P:=Tryz.prog) u 90 159 i0 _ Tryz.underlying90 hi0 hz0 .i64 .i64 (H:Int) (H:Int) (by omega) (Int.le_refl _) (by rw [hz2];omega) (by omega)
    rw [Int.toNat_natCast,hz1] at h
    exact h
  have hmk2:∀ u:World,(Instr.makeSlice 159 (.int .i64 (G:Int)) (.int .i64 (G:Int))).run Tryz.prog u = .ok (.slice (some ⟨u.heap.size,0,none⟩) G G) (u.alloc (booksBlock G)):=fun u=>by
    have h:=run_make (P:=Tryz.prog) u 159 149 i1 _ Tryz.underlying159 hi1 hy0 .i64 .i64 (G:Int) (G:Int) (by omega) (Int.le_refl _) (by rw [hy2];omega) (by omega)
    rw [Int.toNat_natCast,hy1] at h
    exact h
  have N0:=NBo.start w G H
  have HQ0:=hide (fun W=>queueNew_any W 120)
  have HQ1:=hide (fun W=>queueNew_any W 121)
  clear hi0 hz0 hz1 hz2 hi1 hy0 hy1 hy2
  go_enter Tryz.func81,Tryz.ntmps81
  go_wp2
  generalize w.alloc (rowsBlock H)=W0 at *
  go_loopw [13] (fun i wr=>∃ j:Nat,j≤H∧i = .int .i64 j∧NBo w G H j wr) (fun i _=>H - (intOf i).toNat)
  case atStart=>exact ⟨0,Nat.zero_le _,rfl,N0⟩
  case round =>
    clear N0
    obtain ⟨j,hj,rfl,A⟩:=hrel
    by_cases hlt:j<H
    · have hlt':(j:Int)<(H:Int):=by omega
      obtain ⟨cb,fb⟩:=A.bb j hlt
      have lz:w.heap.size<wr.heap.size:=by rw [A.sz];exact gbA_le _ _ _
      have hzA:=A.sz
      have HI:=hide (A.make hlt)
      rw [World.setCell_alloc_past _ _ _ _ lz] at HI
      have cb2:=(((A.bb j hlt).kep ((Kep.refl non wr).alloc (booksBlock G)) (fun f=>f)))
      obtain ⟨cb3,fb3⟩:=cb2
      clear A hmk hzA
      go_wp2
      generalize (wr.setCell ⟨w.heap.size,j,none⟩ (.slice (some ⟨wr.heap.size,0,none⟩) G G)).alloc (booksBlock G)=W1 at *
      clear cb3 fb3 cb fb hmk2
      go_loopw [26] (fun i wr=>∃ k:Nat,k≤G∧i = .int .i64 k∧NBi w G H j k wr) (fun i _=>G - (intOf i).toNat)
      case atStart=>exact ⟨0,Nat.zero_le _,rfl,HI.out⟩
      case round =>
        clear HI
        obtain ⟨k,hk,rfl,A⟩:=hrel
        by_cases hlk:k<G
        · have hlk':(k:Int)<(G:Int):=by omega
          have cb:=(A.bb j hlt).cell
          rw [bkRow,if_pos (by omega)] at cb
          have HA:=hide A
          have lg:gbA w.heap.size G j<wr.heap.size:=by rw [A.sz];omega
          have gx:=fun (o:Obj)=>(A.hj.nl k 0 (Nat.le_refl _) hlk (by omega)).kep (((Kep.refl non wr).drew).alloc o) (fun f=>f)
          have g1:∀ o,(wr.drew.alloc o).cell? ⟨gbA w.heap.size G j,k * 5,none⟩=some (.pointer none):=fun o=>(gx o).cell
          have g2:∀ o,(wr.drew.alloc o).frozen? ⟨gbA w.heap.size G j,k * 5,none⟩=false:=fun o=>(gx o).free
          obtain ⟨g3,g4⟩:=A.hj.nl k 0 (Nat.le_refl _) hlk (by omega)
          have g5:wr.drew.cell? ⟨gbA w.heap.size G j,k * 5,none⟩=some (.pointer none):=g3
          have g6:wr.drew.frozen? ⟨gbA w.heap.size G j,k * 5,none⟩=false:=g4
          have lg2:gbA w.heap.size G j<wr.drew.heap.size:=lg
          clear A gx
          go_wp2
          go_cut [8] from 36 to 39 (fun v8 wx=>v8 = .pointer (some ⟨gbA w.heap.size G j,k * 5,none⟩)∧NBq w G H j k wx)
          case first =>
            go_region_with (go_at_call 119;go_loud (refine (HQ0.out _).mono ?_;rintro e w1 ⟨rfl,hw1⟩;have h1:w1.cell? ⟨gbA w.heap.size G j,k * 5,none⟩=some (.pointer none):=(congrArg (fun u=>World.cell? u _) hw1).trans (g1 _);have h2:w1.frozen? ⟨gbA w.heap.size G j,k * 5,none⟩=false:=(congrArg (fun u=>World.frozen? u _) hw1).trans (g2 _);have HW1:=hide hw1;clear hw1))
            all_goals go_step
            all_goals go_step
            all_goals go_meet
            all_goals refine ⟨rfl,?_⟩
            all_goals rw [HW1.out]
            all_goals exact (HA.out.later hk ((Kep.refl non _).drew) rfl).first hlk
          case rest =>
            obtain ⟨rfl,A⟩:=hcut
            clear g1 g2 HA cb lg
            have HA:=hide A
            have lg:gbA w.heap.size G j<wc.heap.size:=by rw [A.sz];omega
            have gx:=fun (o:Obj)=>A.s1.kep (((Kep.refl non wc).drew).alloc o) (fun f=>f)
            have g1:∀ o,(wc.drew.alloc o).cell? ⟨gbA w.heap.size G j,k * 5+1,none⟩=some (.pointer none):=fun o=>(gx o).cell
            have g2:∀ o,(wc.drew.alloc o).frozen? ⟨gbA w.heap.size G j,k * 5+1,none⟩=false:=fun o=>(gx o).free
            obtain ⟨g3,g4⟩:=A.s1
            have g5:wc.drew.cell? ⟨gbA w.heap.size G j,k * 5+1,none⟩=some (.pointer none):=g3
            have g6:wc.drew.frozen? ⟨gbA w.heap.size G j,k * 5+1,none⟩=false:=g4
            have lg2:gbA w.heap.size G j<wc.drew.heap.size:=lg
            clear A gx
            go_wp2
            go_region_with (go_at_call 119;refine (HQ1.out _).mono ?_;rintro e w1 ⟨rfl,hw1⟩;have h1:w1.cell? ⟨gbA w.heap.size G j,k * 5+1,none⟩=some (.pointer none):=(congrArg (fun u=>World.cell? u _) hw1).trans (g1 _);have h2:w1.frozen? ⟨gbA w.heap.size G j,k * 5+1,none⟩=false:=(congrArg (fun u=>World.frozen? u _) hw1).trans (g2 _);have HW1:=hide hw1;clear hw1)
            all_goals go_wp2
            all_goals refine ⟨⟨k+1,by omega,by go_num,?_⟩,by simp [intOf];omega⟩
            all_goals rw [HW1.out]
            all_goals exact (HA.out.later ((Kep.refl non _).drew) rfl).second hlk
        · have e1:k=G:=by omega
          have HA:=hide (e1 ▸ A:NBi w G H j G wr)
          clear A
          go_wp2
          exact ⟨⟨j+1,by omega,by go_num,HA.out.done⟩,by simp [intOf];omega⟩
    · have e1:j=H:=by omega
      subst e1
      go_wp2
      go_ret
      exact ⟨rfl,A⟩
end

section
open Go.RowKit Go.Sort

def newM (T G:Nat) (rs:List Int):Mt:=⟨T,G,rs.length,fun h=>rs.getD h 0,fun _=>0,fun _ _ _=>0,[],fun _ _ _=>[],fun _ _=>0,fun _ _=>0,fun _ _=>0,0,0,0⟩

def zeros17:Array Value:=#[.int .i64 0,.int .i64 0,.int .i64 0,.int .i64 0,.int .i64 0,.int .i64 0,.int .i64 0,.int .i64 0,.int .i64 0,.int .i64 0,.int .i64 0,.int .i64 0,.int .i64 0,.int .i64 0,.int .i64 0,.int .i64 0,.int .i64 0]
def acctBlock (T:Nat):Obj:=.cells (madeCells zeros17 (T * 17)) 130

theorem acct_at {w:World} {B T:Nat} (h:w.heap[B]? = some (acctBlock T)) (k:Nat) (hk:k<T * 17):Own w ⟨B,k,none⟩ (.int .i64 0):=by
  refine ⟨?_,frozen_of_row w B k _ _ h⟩
  rw [cell_of_row w B k _ _ _ h]
  have hz:∀ i,i<17→zeros17[i]? = some (.int .i64 0):=by
    intro i hi
    rcases i with _ | _ | _ | _ | _ | _ | _ | _ | _ | _ | _ | _ | _ | _ | _ | _ | _ | i
    all_goals first | rfl | omega
  have hm:=hz (k % 17) (Nat.mod_lt _ (by decide))
  simp only [madeCells]
  simp [hk]
  show zeros17[k % 17]! = _
  rw [getElem!_def,hm]

theorem gbA_inj {B G h h' i i':Nat} (e:gbA B G h+i=gbA B G h'+i') (hi:i≤2 * G) (hi':i'≤2 * G):h=h'∧i=i':=by
  rcases Nat.lt_trichotomy h h' with k | k | k
  · have:=gbA_mono B G k;omega
  · subst k;omega
  · have:=gbA_mono B G k;omega

structure NewSt (w:World) (T G:Nat) (rs:List Int) (ab gg B:Nat) (W:World):Prop where
  kp:Kep non w W
  ha:W.heap[ab]? = some (acctBlock T)
  la:w.heap.size≤ab
  hr:∀ i x,rs[i]? = some x→W.cell? ⟨gg,i,none⟩=some (.int .i64 x)
  lg:w.heap.size≤gg∧gg<W.heap.size
  bb:∀ h,h<rs.length→Own W ⟨B,h,none⟩ (.slice (some ⟨gbA B G h,0,none⟩) G G)
  hs:∀ h,h<rs.length→NBh B G h G W
  lb:w.heap.size≤B∧gbA B G rs.length≤W.heap.size
  d1:gg≠ab
  d2:gg<B∨gbA B G rs.length≤gg
  d3:ab<B∨gbA B G rs.length≤ab

theorem pnew_end {w W:World} {T G:Nat} {rs:List Int} {ab gg B cap:Nat} (S:NewSt w T G rs ab gg B W) :
    ∃ L:PL,L.x=W.heap.size∧PRep (W.alloc (.cells #[.int .i64 G,.slice (some ⟨gg,0,none⟩) rs.length cap,.slice (some ⟨ab,0,none⟩) T T,.slice none 0 0,.slice (some ⟨B,0,none⟩) rs.length rs.length,.int .i64 0,.int .i64 0,.int .i64 0] 92)) L (newM T G rs) ∧
      Kep non w (W.alloc (.cells #[.int .i64 G,.slice (some ⟨gg,0,none⟩) rs.length cap,.slice (some ⟨ab,0,none⟩) T T,.slice none 0 0,.slice (some ⟨B,0,none⟩) rs.length rs.length,.int .i64 0,.int .i64 0,.int .i64 0] 92))∧(∀ b,L.S (newM T G rs) b→w.heap.size≤b)∧w.heap.size≤L.rb∧w.heap.size≤L.bb:=by
  have h:=heap_alloc_new W (.cells #[.int .i64 G,.slice (some ⟨gg,0,none⟩) rs.length cap,.slice (some ⟨ab,0,none⟩) T T,.slice none 0 0,.slice (some ⟨B,0,none⟩) rs.length rs.length,.int .i64 0,.int .i64 0,.int .i64 0] 92)
  have c:=fun j=>cell_of_row _ _ j _ _ _ h
  have f:=fun j=>frozen_of_row _ _ j _ _ h
  have ko:Kep non W (W.alloc (.cells #[.int .i64 G,.slice (some ⟨gg,0,none⟩) rs.length cap,.slice (some ⟨ab,0,none⟩) T T,.slice none 0 0,.slice (some ⟨B,0,none⟩) rs.length rs.length,.int .i64 0,.int .i64 0,.int .i64 0] 92)):=(Kep.refl _ _).alloc _
  have n:∀ b,¬ non b:=fun _ q=>q
  have hz:=S.kp.size
  have lab:ab<W.heap.size:=(Array.getElem?_eq_some_iff.1 S.ha).1
  have lgg:=S.lg
  have lb:=S.lb
  have mono:∀ h,h<rs.length→gbA B G h+1+2 * G≤gbA B G rs.length:=fun h hh=>gbA_mono B G hh
  have gB:=fun h=>gbA_le B G h
  let L:PL:=⟨W.heap.size,gg,cap,ab,.slice none 0 0,B,gbA B G,qbA B G,fun _ _ _=>.slice none 0 0,fun _ _ _=>[]⟩
  have inv:∀ j b,L.F (newM T G rs) j=some b→(j = .x∧b=W.heap.size)∨(j = .ab∧b=ab)∨(∃ h,h<rs.length∧j = .gb h∧b=gbA B G h+0)∨(∃ h g s,h<rs.length∧g<G∧s<2∧j = .qb h g s∧b=gbA B G h+(1+2 * g+s)):=by
    intro j b hj
    rcases j with _ | _ | _ | h | ⟨h,g,s⟩ | ⟨h,g,s⟩ | ⟨h,g,s,i⟩
    · exact .inl ⟨rfl,by injection hj with hj;exact hj.symm⟩
    · exact .inr (.inl ⟨rfl,by injection hj with hj;exact hj.symm⟩)
    · simp [PL.F,L,Value.ownBlock] at hj
    · simp only [PL.F] at hj
      split at hj
      · rename_i hh
        exact .inr (.inr (.inl ⟨h,hh,rfl,by injection hj with hj;exact hj.symm⟩))
      · cases hj
    · simp only [PL.F] at hj
      split at hj
      · rename_i hh
        exact .inr (.inr (.inr ⟨h,g,s,hh.1,hh.2.1,hh.2.2,rfl,by injection hj with hj;rw [← hj];show qbA B G h g s=_;unfold qbA;omega⟩))
      · cases hj
    · simp only [PL.F] at hj
      split at hj
      · simp [L,Value.ownBlock] at hj
      · cases hj
    · simp only [PL.F] at hj
      split at hj
      · simp [L] at hj
      · cases hj
  have hge:∀ b,L.S (newM T G rs) b→w.heap.size≤b:=by
    rintro b ⟨j,hj⟩
    rcases inv j b hj with ⟨_,e⟩ | ⟨_,e⟩ | ⟨h,_,_,e⟩ | ⟨h,g,s,_,_,_,_,e⟩
    · omega
    · have:=S.la;omega
    · have:=gB h;omega
    · have:=gB h;omega
  have rg:L.rb=gg:=rfl
  have bg:L.bb=B:=rfl
  refine ⟨L,rfl,⟨⟨c 0,f 0⟩,⟨c 1,f 1⟩,⟨c 2,f 2⟩,⟨c 3,f 3⟩,⟨c 4,f 4⟩,⟨c 5,f 5⟩,⟨c 6,f 6⟩,⟨c 7,f 7⟩,fun i hi=>?_,fun t ht=>?_,fun t i g ht hi hg=>?_,World.ownsRow_nil _ _ _ _,fun i hi=>?_,fun i g s q=>?_,fun i g hi hg=>?_,fun i g hi hg=>?_,fun i g hi hg=>?_,fun i g s q=>?_,fun i g s q=>?_,fun i g s q=>World.ownsRow_nil _ _ _ _,fun i g s q=>rfl,fun i g s k b o q e=>by simp [L] at e,fun i g s k b q e=>by simp [L] at e,?_,?_,?_⟩,S.kp.trans ko,hge,lgg.1,lb.1⟩
  · have hi':i<rs.length:=hi
    have e:rs[i]? = some ((newM T G rs).rt i):=by
      show rs[i]? = some (rs.getD i 0)
      simp [hi']
    exact ko.cell (S.hr i _ e) (n _)
  · exact (acct_at S.ha (t * 17) (by have:t<T:=ht;omega)).kep ko (n _)
  · exact (acct_at S.ha (t * 17+1+i * 4+g) (by have:t<T:=ht;omega)).kep ko (n _)
  · exact ((S.bb i hi).kep ko (n _)).cell
  · exact ((S.hs i q.1).sd g s q.2.1 q.2.2).kep ko (n _)
  · exact ((S.hs i hi).nm g 0 hg (by omega)).kep ko (n _)
  · exact ((S.hs i hi).nm g 1 hg (by omega)).kep ko (n _)
  · exact ((S.hs i hi).nm g 2 hg (by omega)).kep ko (n _)
  · exact ko.cell ((S.hs i q.1).q0 g s q.2.1 q.2.2) (n _)
  · exact ((S.hs i q.1).q1 g s q.2.1 q.2.2).kep ko (n _)
  · have d3:=S.d3
    intro i j b hi hj
    rcases inv i b hi with ⟨rfl,e⟩ | ⟨rfl,e⟩ | ⟨h,hh,rfl,e⟩ | ⟨h,g,s,hh,hg,hs,rfl,e⟩
    · rcases inv j b hj with ⟨rfl,e'⟩ | ⟨rfl,e'⟩ | ⟨h',hh',rfl,e'⟩ | ⟨h',g',s',hh',hg',hs',rfl,e'⟩
      · rfl
      · omega
      · have:=mono h' hh';omega
      · have:=mono h' hh';omega
    · rcases inv j b hj with ⟨rfl,e'⟩ | ⟨rfl,e'⟩ | ⟨h',hh',rfl,e'⟩ | ⟨h',g',s',hh',hg',hs',rfl,e'⟩
      · omega
      · rfl
      · have:=mono h' hh';have:=gB h';omega
      · have:=mono h' hh';have:=gB h';omega
    · have m1:=mono h hh
      have g1:=gB h
      rcases inv j b hj with ⟨rfl,e'⟩ | ⟨rfl,e'⟩ | ⟨h',hh',rfl,e'⟩ | ⟨h',g',s',hh',hg',hs',rfl,e'⟩
      · omega
      · omega
      · obtain ⟨rfl,_⟩:=gbA_inj (e.symm.trans e') (by omega) (by omega)
        rfl
      · have:=(gbA_inj (e.symm.trans e') (by omega) (by omega)).2
        omega
    · have m1:=mono h hh
      have g1:=gB h
      rcases inv j b hj with ⟨rfl,e'⟩ | ⟨rfl,e'⟩ | ⟨h',hh',rfl,e'⟩ | ⟨h',g',s',hh',hg',hs',rfl,e'⟩
      · omega
      · omega
      · have:=(gbA_inj (e.symm.trans e') (by omega) (by omega)).2
        omega
      · obtain ⟨rfl,k⟩:=gbA_inj (e.symm.trans e') (by omega) (by omega)
        have e1:g=g':=by omega
        have e2:s=s':=by omega
        subst e1 e2
        rfl
  · rintro ⟨j,hj⟩
    have d1:=S.d1
    have d2:=S.d2
    rcases inv j _ hj with ⟨_,e⟩ | ⟨_,e⟩ | ⟨h,hh,_,e⟩ | ⟨h,g,s,hh,hg,hs,_,e⟩
    · omega
    · omega
    · have:=mono h hh;have:=gB h;omega
    · have:=mono h hh;have:=gB h;omega
  · rintro ⟨j,hj⟩
    have d3:=S.d3
    have g0:=gB rs.length
    rcases inv j _ hj with ⟨_,e⟩ | ⟨_,e⟩ | ⟨h,hh,_,e⟩ | ⟨h,g,s,hh,hg,hs,_,e⟩
    · omega
    · omega
    · have:=gB h;omega
    · have:=gB h;omega

theorem nb_row {w:World} {G H:Nat} {W:World} (nb:NBo w G H H W) {h:Nat} (hh:h<H):Own W ⟨w.heap.size,h,none⟩ (.slice (some ⟨gbA w.heap.size G h,0,none⟩) G G):=by
  have:=nb.bb h hh
  rwa [bkRow,if_pos hh] at this

set_option maxRecDepth 100000 in
set_option maxHeartbeats 4000000 in
theorem new_yes (w:World) (T G:Nat) (v:Value) (rs:List Int) (hr:IntsAt w v rs) (hn:sizeOk T G rs=true) :
    Calls Tryz.prog 27 #[.int .i64 T,.int .i64 G,v] w fun e w'=>∃ L:PL,e = .returned (.tuple #[.pointer (some ⟨L.x,0,none⟩),.int .i64 0])∧PRep w' L (newM T G rs)∧Kep non w w'∧(∀ b,L.S (newM T G rs) b→w.heap.size≤b)∧w.heap.size≤L.rb∧w.heap.size≤L.bb:=by
  unfold sizeOk at hn
  simp only [Bool.and_eq_true] at hn
  obtain ⟨⟨h1,h2⟩,h3⟩:=hn
  have b1:=of_decide_eq_true h1
  have b2:=of_decide_eq_true h2
  have h3':=h3
  simp only [fitB,Bool.and_eq_true,decide_eq_true_eq] at h3'
  obtain ⟨⟨n1,n4⟩,_⟩:=h3'
  have HF:=hide (ratesFit_any w v rs hr (by omega))
  rw [h3] at HF
  have i1:=hide h1
  have i2:=hide h2
  clear h1 h2 h3
  rcases hr with ⟨_,h⟩ | ⟨rb,off,rc,rfl,hc⟩
  · subst h;simp at n1
  have HC:=hide (fun W (k:Kep non w W)=>clone_any W rb off rc rs (fun i x hx=>k.cell (hc i x hx) (fun f=>f)) n1 n4)
  have HN:=hide (fun W=>newBooks_any W G rs.length (by omega) n4)
  clear hc
  obtain ⟨i0,hi0,hz0,hz1,hz2⟩:=info_parts infoAccount
  have hmk:∀ u:World,(Instr.makeSlice 88 (.int .i64 (T:Int)) (.int .i64 (T:Int))).run Tryz.prog u = .ok (.slice (some ⟨u.heap.size,0,none⟩) T T) (u.alloc (acctBlock T)):=fun u=>by
    have h:=run_make (P:=Tryz.prog) u 88 130 i0 _ Tryz.underlying88 hi0 hz0 .i64 .i64 (T:Int) (T:Int) (by omega) (Int.le_refl _) (by rw [hz2];omega) (by omega)
    rw [Int.toNat_natCast,hz1] at h
    exact h
  go_enter Tryz.func27,Tryz.ntmps27
  go_wp2_with (first | (go_at_call 78;refine (within_b _ _ _ _).mono ?_;(first | rw [i1.out] | rw [i2.out]);rintro e w' ⟨rfl,rfl⟩) | (go_at_call 79;refine HF.out.mono ?_;rintro e w' ⟨rfl,rfl⟩))
  clear b1 b2 i1 i2 HF hi0 hz0 hz1 hz2 n1 n4
  go_region_with (first | (go_at_call 80;refine (HC.out _ ?_).mono ?_;((repeat (first | apply Kep.drew | apply Kep.alloc));first | exact Kep.refl _ _ | assumption);rintro e wa ⟨gg,cap,rfl,ga,gb,ka,ra⟩;have KA:Kep non w' wa:=Kep.trans (by ((repeat (first | apply Kep.drew | apply Kep.alloc));first | exact Kep.refl _ _ | assumption)) ka) | (go_at_call 81;refine (HN.out _).mono ?_;rintro e wb ⟨rfl,nb⟩;have KB:Kep non w' wb:=Kep.trans (by ((repeat (first | apply Kep.drew | apply Kep.alloc));first | exact Kep.refl _ _ | assumption)) nb.kp))
  all_goals clear HC HN hmk
  all_goals go_wp2
  all_goals go_ret2
  · have S:NewSt w' T G rs wa.heap.size gg (wa.alloc (acctBlock T)).heap.size wb:=by
      have z1:=nb.sz
      have z2:=ka.size
      have z3:(wa.alloc (acctBlock T)).heap.size=wa.heap.size+1:=by simp
      have z4:w'.drew.heap.size=w'.heap.size:=rfl
      have z5:=gbA_le (wa.alloc (acctBlock T)).heap.size G rs.length
      refine ⟨KB,(nb.kp.block _ (by omega) (fun f=>f)).trans (heap_alloc_new wa _),by omega,fun i x hx=>nb.kp.cell (((Kep.refl non wa).alloc _).cell (ra i x hx) (fun f=>f)) (fun f=>f),⟨by omega,by omega⟩,fun h hh=>nb_row nb hh,nb.hs,⟨by omega,by omega⟩,by omega,by omega,by omega⟩
    obtain ⟨L,e1,e2,e3,e4⟩:=pnew_end (cap:=cap) S
    exact ⟨L,by rw [e1];rfl,by simpa using e2,by simpa using e3,e4⟩
  · have S:NewSt w' T G rs wb.heap.size gg wa.heap.size (wb.alloc (acctBlock T)):=by
      have z1:=nb.sz
      have z2:=ka.size
      have z3:(wb.alloc (acctBlock T)).heap.size=wb.heap.size+1:=by simp
      have z4:w'.drew.heap.size=w'.heap.size:=rfl
      have z5:=gbA_le wa.heap.size G rs.length
      have k1:Kep non wb (wb.alloc (acctBlock T)):=(Kep.refl _ _).alloc _
      refine ⟨KB.trans k1,heap_alloc_new wb _,by omega,fun i x hx=>k1.cell (nb.kp.cell (ra i x hx) (fun f=>f)) (fun f=>f),⟨by omega,by omega⟩,fun h hh=>(nb_row nb hh).kep k1 (fun f=>f),fun h hh=>(nb.hs h hh).kep (Nat.le_refl _) k1 (fun _ _ _ f=>f),⟨by omega,by omega⟩,by omega,by omega,by omega⟩
    obtain ⟨L,e1,e2,e3,e4⟩:=pnew_end (cap:=cap) S
    exact ⟨L,by rw [e1,World.size_alloc];rfl,by simpa using e2,by simpa using e3,e4⟩
  · have S:NewSt w' T G rs w'.heap.size gg wa.heap.size wb:=by
      have z1:=nb.sz
      have z2:=ka.size
      have z3:(w'.alloc (acctBlock T)).drew.heap.size=w'.heap.size+1:=by simp
      have z5:=gbA_le wa.heap.size G rs.length
      refine ⟨KB,(nb.kp.block _ (by omega) (fun f=>f)).trans ((ka.block _ (by omega) (fun f=>f)).trans (heap_alloc_new w' _)),by omega,fun i x hx=>nb.kp.cell (ra i x hx) (fun f=>f),⟨by omega,by omega⟩,fun h hh=>nb_row nb hh,nb.hs,⟨by omega,by omega⟩,by omega,by omega,by omega⟩
    obtain ⟨L,e1,e2,e3,e4⟩:=pnew_end (cap:=cap) S
    exact ⟨L,by rw [e1];rfl,by simpa using e2,by simpa using e3,e4⟩
end

end Go.Proofs.YtcfoobhihhndjaaGreat
