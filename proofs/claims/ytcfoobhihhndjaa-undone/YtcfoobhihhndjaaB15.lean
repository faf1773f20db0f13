/- The program's queue: slices.Insert of one thing. -/
import Derived.Deep.AppendLies
import Derived.Shelf.Spec.SlicesInsertGrow
import Derived.Test.YtcfoobhihhndjaaB14
namespace Go.Proofs.Ytcfoobhihhndjaa

section
open Go.RowKit Go.Sort

/-- what slices.Insert leaves: a row of one more, in its old place or a new one -/
def InsPost (w : World) (v : Value) (n : Nat) (ys : List Nat) (e : Ending) (w' : World) : Prop :=
  ∃ g cap, e = .returned (.slice (some ⟨g, 0, none⟩) (n + 1) cap) ∧ w'.ownsRow 0 90 1 (.slice (some ⟨g, 0, none⟩) (n + 1) cap) (n + 1) (ys.map optr) ∧ Kep (fun b => v.ownBlock = some b) w w' ∧ (v.ownBlock = some g ∨ w.heap.size ≤ g)

theorem insert_end_post {w w1 : World} {v : Value} {n x g cap : Nat} {zs : List Nat} (H1 : w1.ownsRow 0 90 1 (.slice (some ⟨g, 0, none⟩) (n + 1) cap) (n + 1) (zs.map optr ++ [optr x])) (H2 : w.grownBy w1 v.ownBlock) (H3 : v.ownBlock = some g ∨ g = w.heap.size) :
    InsPost w v n (zs ++ [x]) (.returned (.slice (some ⟨g, 0, none⟩) (n + 1) cap)) w1 := by
  refine ⟨g, cap, rfl, by simpa using H1, (Kep.refl _ w).grown H2 (fun k hk => .inl hk), ?_⟩
  rcases H3 with q | q
  · exact .inl q
  · right; omega

set_option maxHeartbeats 1000000 in
set_option maxRecDepth 100000 in
theorem insert_end (w : World) (a : Option Addr) (n c vb x : Nat) (zs : List Nat) (h60 : n ≤ 1000000) (hr : w.ownsRow 0 90 1 (.slice a n c) n (zs.map optr)) (hv : w.cell? ⟨vb, 0, none⟩ = some (optr x)) :
    Calls Try.prog 76 #[.slice a n c, .int .i64 n, .slice (some ⟨vb, 0, none⟩) 1 1] w (InsPost w (.slice a n c) n (zs ++ [x])) := by
  obtain ⟨j0, hi0, hz0, hz1, hz2⟩ := info_parts infoOrderPtr
  have HR := hide hr
  have hnc : n ≤ c := by
    rcases hr.2 with ⟨q, q2⟩ | ⟨g, cap, cur, q, _, _, q3, _⟩
    · omega
    · cases q; exact q3
  have HV := hide (show ∀ j u, [optr x][j]? = some u → w.cell? ((⟨vb, 0, none⟩ : Addr).add j) = some u from fun j u hj => by
    cases j with
    | zero => rw [Addr.add_lit]; simpa [hv] using hj
    | succ j => simp at hj)
  have HO := hide (show ∀ u ∈ [optr x], u.oneCell' = true from fun u hu => by rw [List.mem_singleton.1 hu]; rfl)
  clear hr hv
  rcases Nat.lt_or_ge n c with hlt0 | hge
  · have hne : ¬ (c = n) := by omega
    go_enter Try.func76, Try.ntmps76
    go_wp2_with (at_builtin; refine wpList_append_lies _ rfl _ _ _ rfl 0 90 j0 _ 1 8 Try.underlying88 hi0 hz0 hz1 hz2 rfl (by omega) _ n (zs.map optr) rfl HR.out ⟨vb, 0, none⟩ 1 1 [optr x] rfl rfl HV.out HO.out (by omega) (by simp only [maxLen]; omega) (by omega) (Nat.zero_le _) w.heap.size rfl ?_)
    intro g cap w1 hown hgrow hat hlt
    have H1 := hide hown
    have H2 := hide hgrow
    have H3 := hide hat
    clear hown hgrow hat
    go_wp2
    go_ret
    exact insert_end_post H1.out H2.out H3.out
  · obtain rfl : c = n := by omega
    go_enter Try.func76, Try.ntmps76
    go_wp2_with (at_builtin; refine wpList_append_lies _ rfl _ _ _ rfl 0 90 j0 _ 1 8 Try.underlying88 hi0 hz0 hz1 hz2 rfl (by omega) _ c (zs.map optr) rfl HR.out ⟨vb, 0, none⟩ 1 1 [optr x] rfl rfl HV.out HO.out (by omega) (by simp only [maxLen]; omega) (by omega) (Nat.zero_le _) w.heap.size rfl ?_)
    intro g cap w1 hown hgrow hat hlt
    have H1 := hide hown
    have H2 := hide hgrow
    have H3 := hide hat
    clear hown hgrow hat
    go_wp2
    go_ret
    exact insert_end_post H1.out H2.out H3.out

theorem Plain.shape {w : World} {b : Nat} (h : Plain w b) : ∃ t k, w.shape? b = some (t, k) ∧ ∀ j, w.frozen? ⟨b, j, none⟩ = false := by
  obtain ⟨cs, t, e⟩ := h
  exact ⟨t, cs.size, by simp [World.shape?, e], fun j => by simp [World.frozen?, e]⟩
end

/- The program's queue: slices.Insert of one thing ahead of others, where there is room. -/
section
open Go.RowKit Go.Sort

def putAt {α : Type} (zs : List α) (i : Nat) (x : α) : List α := zs.take i ++ x :: zs.drop i

theorem putAt_length {α : Type} (zs : List α) (i : Nat) (x : α) (h : i ≤ zs.length) : (putAt zs i x).length = zs.length + 1 := by
  simp [putAt]; omega

theorem putAt_get {α : Type} (zs : List α) (i : Nat) (x : α) (j : Nat) (h : i ≤ zs.length) : (putAt zs i x)[j]? = if j < i then zs[j]? else if j = i then some x else zs[j - 1]? := by
  unfold putAt
  have hl : (zs.take i).length = i := by simp; omega
  by_cases h1 : j < i
  · rw [if_pos h1, List.getElem?_append_left (by omega), List.getElem?_take, if_pos h1]
  · rw [if_neg h1, List.getElem?_append_right (by omega), hl]
    by_cases h2 : j = i
    · simp [h2]
    · rw [if_neg h2, show j - i = (j - i - 1) + 1 by omega, List.getElem?_cons_succ, List.getElem?_drop, show i + (j - i - 1) = j - 1 by omega]

/-- the two copies of an insertion in place -/
theorem shift_post {w W : World} {b n c i x : Nat} {zs : List Nat} (hr : w.ownsRow 0 90 1 (.slice (some ⟨b, 0, none⟩) n c) n (zs.map optr)) (hi : i < n) (hc : n + 1 ≤ c) (hW : W.heap = w.heap) (ho : W.os = w.os) (ht : W.tape = w.tape) (hu : W.output = w.output) :
    InsPost w (.slice (some ⟨b, 0, none⟩) n c) n (putAt zs i x) (.returned (.slice (some ⟨b, 0, none⟩) (n + 1) c)) ((W.setCells b (i + 1) ((zs.map optr).drop i)).setCells b i [optr x]) := by
  obtain ⟨cur, hb, hs, hn, hm, hl, hcl, hf⟩ := owns_cell hr
  rw [List.length_map] at hl
  have hb' : W.heap[b]? = some (.cells cur 90 (0, 0)) := by rw [hW]; exact hb
  have cells : ∀ a : Addr, W.cell? a = w.cell? a := fun a => by simp [World.cell?, hW]
  have hsome : ∀ j, j < c → (W.cell? ⟨b, j, none⟩).isSome = true := fun j hj => by
    simp [World.cell?, hb', hs, hj]
  obtain ⟨c1, e1, s1⟩ := setCells_block b ((zs.map optr).drop i) (i + 1) W cur _ _ hb'
  obtain ⟨c2, e2, s2⟩ := setCells_block b [optr x] i _ c1 _ _ e1
  have k0 : Kep (fun k => Value.ownBlock (.slice (some ⟨b, 0, none⟩) n c) = some k) w W := ⟨ho, ht, hu, by rw [hW]; exact Nat.le_refl _, fun k _ _ => by rw [hW]⟩
  refine ⟨b, c, rfl, owns_of_cells e2 (by omega) hc hm (by rw [List.length_map, putAt_length _ _ _ (by omega), hl]) fun j v hj => ?_, setCells_kep b _ _ _ (setCells_kep b _ _ _ k0 (.inl rfl)) (.inl rfl), .inl rfl⟩
  have hdl : ((zs.map optr).drop i).length = n - i := by simp [hl]
  rw [List.getElem?_map, putAt_get _ _ _ _ (by omega)] at hj
  by_cases h1 : j < i
  · rw [if_pos h1] at hj
    rw [World.cell?_setCells_out b _ _ _ _ (fun _ _ => .inl h1), World.cell?_setCells_out b _ _ _ _ (fun _ _ => .inl (by show j < i + 1; omega)), cells]
    exact hcl j v (by rw [List.getElem?_map]; exact hj)
  · rw [if_neg h1] at hj
    by_cases h2 : j = i
    · subst h2
      rw [if_pos rfl] at hj
      have q := World.cell?_setCells_in b [optr x] j (W.setCells b (j + 1) ((zs.map optr).drop j)) (fun t ht => by
        obtain rfl : t = 0 := by simpa using ht
        exact isSome_setCells b _ _ _ (fun t ht => hsome _ (by omega)) _ (hsome _ (by omega))) 0 (by simp)
      refine Eq.trans q ?_
      simpa using hj
    · rw [if_neg h2] at hj
      rw [World.cell?_setCells_out b _ _ _ _ (fun _ _ => .inr (by show i + 1 ≤ j; omega))]
      have hjn : j - 1 < n := by
        cases q : zs[j - 1]? with
        | none => rw [q] at hj; cases hj
        | some z => have := (List.getElem?_eq_some_iff.1 q).1; omega
      have q := World.cell?_setCells_in b ((zs.map optr).drop i) (i + 1) W (fun t ht => hsome _ (by omega)) (j - (i + 1)) (by omega)
      rw [show i + 1 + (j - (i + 1)) = j by omega] at q
      rw [q, ← List.getElem?_eq_getElem, List.getElem?_drop, show i + (j - (i + 1)) = j - 1 by omega, List.getElem?_map]
      exact hj

set_option maxHeartbeats 4000000 in
set_option maxRecDepth 100000 in
theorem insert_shift (w : World) (b n c i vb x : Nat) (zs : List Nat) (h60 : n ≤ 1000000) (hr : w.ownsRow 0 90 1 (.slice (some ⟨b, 0, none⟩) n c) n (zs.map optr)) (hv : w.cell? ⟨vb, 0, none⟩ = some (optr x)) (hp : Plain w vb) (hvb : vb ≠ b) (hi : i < n) (hroom : n + 1 ≤ c) :
    Calls Try.prog 76 #[.slice (some ⟨b, 0, none⟩) n c, .int .i64 i, .slice (some ⟨vb, 0, none⟩) 1 1] w (InsPost w (.slice (some ⟨b, 0, none⟩) n c) n (putAt zs i x)) := by
  have HR := hide hr
  obtain ⟨cur, hb, hs, hn, hm, hl, hcl, hf⟩ := owns_cell hr
  rw [List.length_map] at hl
  have hc63 : c ≤ 9223372036854775807 := by unfold maxLen at hm; omega
  obtain ⟨tA, kA, hsa, hfa⟩ := hp.shape
  have hsb : w.shape? b = some (90, c) := by simp [World.shape?, hb, hs]
  have hsome : ∀ j, j < c → (w.cell? ⟨b, j, none⟩).isSome = true := fun j hj => by simp [World.cell?, hb, hs, hj]
  have hov : ∀ lb cb, (callFunc 94 #[.slice (some ⟨vb, 0, none⟩) 1 1, .slice (some ⟨b, i + 1, none⟩) lb cb]).run Try.prog w = .ok (.value (.bool false)) w := fun lb cb => by
    rw [run_callFunc_extern Try.func94 (by kernel_rfl) (by kernel_rfl) (by kernel_rfl) (e := Extern.SlicesOverlaps.overlaps #[88, 88] #[4]) (by kernel_rfl),
      Lib.run_overlaps_apart w 88 4 90 Try.underlying88 1 Try.sizeOf90 ⟨vb, 0, none⟩ ⟨b, i + 1, none⟩ 1 1 lb cb hvb tA _ kA c hsa hsb (by omega) (hfa 0) (hfa kA)]
    rfl
  have hsz : (Try.prog.info? 90).map (·.size) = some 1 := by kernel_rfl
  have hdl : ((zs.map optr).drop i).length = n - i := by simp [hl]
  have one : ∀ u ∈ zs.map optr, u.oneCell' = true := fun u hu => by
    obtain ⟨z, _, rfl⟩ := List.mem_map.1 hu
    rfl
  have hcp1 : ∀ ty dc sc, (Builtin.copy_ #[88, 88] ty #[.slice (some ⟨b, i + 1, none⟩) (n - i) dc, .slice (some ⟨b, i, none⟩) (n + 1 - i) sc]).run Try.prog w.drew = .ok (goInt ((zs.map optr).drop i).length) (w.drew.setCells b (i + 1) ((zs.map optr).drop i)) := fun ty dc sc =>
    run_copy_cells w.drew _ _ ty 90 b (i + 1) _ dc ⟨b, i, none⟩ _ sc _ Try.underlying88 hsz (by rw [hdl]; simp only [Nat.min_def]; split <;> omega)
      (fun j v hj => by rw [Addr.add_lit]; exact hcl (i + j) v (by rwa [List.getElem?_drop] at hj))
      (fun j hj => hsome _ (by omega)) (fun j hj => hf _) (fun u hu => one u (List.mem_of_mem_drop hu))
  obtain ⟨W1, hW1⟩ : ∃ W1, W1 = w.drew.setCells b (i + 1) ((zs.map optr).drop i) := ⟨_, rfl⟩
  have hcp2 : ∀ ty dc, (Builtin.copy_ #[88, 88] ty #[.slice (some ⟨b, i, none⟩) (n + 1 - i) dc, .slice (some ⟨vb, 0, none⟩) 1 1]).run Try.prog W1 = .ok (goInt 1) (W1.setCells b i [optr x]) := fun ty dc =>
    run_copy_cells W1 _ _ ty 90 b i _ dc ⟨vb, 0, none⟩ 1 1 [optr x] Try.underlying88 hsz (by simp only [Nat.min_def, List.length_singleton]; split <;> omega)
      (fun j v hj => by
        cases j with
        | zero =>
          rw [Addr.add_lit, hW1, World.cell?_setCells_out b _ _ _ _ (fun h _ => absurd h hvb)]
          exact (hv.trans (by simpa using hj))
        | succ j => simp at hj)
      (fun j hj => by
        rw [hW1]
        have hj0 : j < 1 := hj
        exact isSome_setCells b ((zs.map optr).drop i) (i + 1) w.drew (fun t ht => hsome _ (by omega)) (i + j) (hsome _ (by omega)))
      (fun j hj => by rw [hW1, World.frozen?_setCells]; exact hf _) (fun u hu => by rw [List.mem_singleton.1 hu]; rfl)
  rw [← hW1] at hcp1
  have HW := hide hW1
  have hz2 : ¬ ((i : Int) = (n : Int)) := by omega
  have hw1 : IntKind.i64.wrap ((i : Int) + 1) = (i : Int) + 1 := by rw [IntKind.wrap_i64]; omega
  have hin : i ≤ n := by omega
  have hb2 : ¬ (c = i + 1) := by omega
  have hb4 : ¬ (c = i) := by omega
  have hb3 : (i : Int) ≤ (n : Int) + 1 := by omega
  have htn : ((i : Int) + 1).toNat = i + 1 := by omega
  have hb1 : (0 : Int) ≤ (i : Int) + 1 := by omega
  have hmx : Try.prog.follows .mixedOrders = true := by kernel_rfl
  clear hW1 one hcl hf hsome hr hb hs hsb hv hp hsa hfa
  go_enter Try.func76, Try.ntmps76
  go_wp2_with (simp only [hov])
  go_region_law_o (refine step_copy_runI rfl _ _ 88 88 rfl _ _ (by simp [Act.eval, Act.put]) (by simp [Act.eval, Act.put]) (hcp1 _ _ _) ?_)
  go_wp2_with (at_builtin; refine wpList_copy_runI _ rfl _ _ 88 88 rfl _ _ rfl rfl (hcp2 _ _) ?_)
  go_ret
  rw [HW.out]
  exact shift_post HR.out hi hroom rfl rfl rfl rfl
end

/- The program's queue: slices.Insert of one thing ahead of others, where there is no room. -/
section
open Go.RowKit Go.Sort

theorem grow_post {w W : World} {b n c i x G : Nat} {zs : List Nat} {ROW : Array Value} (hl : zs.length = n) (hi : i < n) (hR : ROW.size = G) (hG : n + 1 ≤ G) (hm : G ≤ maxLen) (hRi : ∀ j, j < i → ROW[j]? = (zs.map optr)[j]?) (kW : Kep non w W) (hb : W.heap[w.heap.size]? = some (.cells ROW 90 (0, 0))) :
    InsPost w (.slice (some ⟨b, 0, none⟩) n c) n (putAt zs i x) (.returned (.slice (some ⟨w.heap.size, 0, none⟩) (n + 1) G)) ((W.setCells w.heap.size i [optr x]).drew.setCells w.heap.size (i + 1) ((zs.map optr).drop i)) := by
  obtain ⟨H, hH⟩ : ∃ H, H = w.heap.size := ⟨_, rfl⟩
  rw [← hH] at hb ⊢
  have hsome : ∀ j, j < G → (W.cell? ⟨H, j, none⟩).isSome = true := fun j hj => by simp [World.cell?, hb, hR, hj]
  obtain ⟨c1, e1, s1⟩ := setCells_block H [optr x] i W ROW _ _ hb
  obtain ⟨c2, e2, s2⟩ := setCells_block H ((zs.map optr).drop i) (i + 1) (W.setCells H i [optr x]).drew c1 _ _ e1
  have hge : w.heap.size ≤ H := by omega
  have k2 : Kep non w ((W.setCells H i [optr x]).drew.setCells H (i + 1) ((zs.map optr).drop i)) := setCells_kep H _ _ _ (setCells_kep H _ _ _ kW (.inr hge)).drew (.inr hge)
  refine ⟨H, G, rfl, owns_of_cells e2 (by omega) hG hm (by rw [List.length_map, putAt_length _ _ _ (by omega), hl]) fun j v hj => ?_, k2.none, .inr (by omega)⟩
  have hdl : ((zs.map optr).drop i).length = n - i := by simp [hl]
  have hd : ∀ a : Addr, (W.setCells H i [optr x]).drew.cell? a = (W.setCells H i [optr x]).cell? a := fun _ => rfl
  rw [List.getElem?_map, putAt_get _ _ _ _ (by omega)] at hj
  by_cases h1 : j < i
  · rw [if_pos h1] at hj
    rw [World.cell?_setCells_out H _ _ _ _ (fun _ _ => .inl (by show j < i + 1; omega)), hd, World.cell?_setCells_out H _ _ _ _ (fun _ _ => .inl h1)]
    simp only [World.cell?, hb]
    rw [hRi j h1, List.getElem?_map]
    exact hj
  · rw [if_neg h1] at hj
    by_cases h2 : j = i
    · subst h2
      rw [if_pos rfl] at hj
      rw [World.cell?_setCells_out H _ _ _ _ (fun _ _ => .inl (by show j < j + 1; omega)), hd]
      have q := World.cell?_setCells_in H [optr x] j W (fun t ht => by
        obtain rfl : t = 0 := by simpa using ht
        exact hsome _ (by omega)) 0 (by simp)
      refine Eq.trans q ?_
      simpa using hj
    · rw [if_neg h2] at hj
      have hjn : j - 1 < n := by
        cases q : zs[j - 1]? with
        | none => rw [q] at hj; cases hj
        | some z => have := (List.getElem?_eq_some_iff.1 q).1; omega
      have q := World.cell?_setCells_in H ((zs.map optr).drop i) (i + 1) (W.setCells H i [optr x]).drew (fun t ht => isSome_setCells H [optr x] i W (fun t ht => hsome _ (by have ht0 : t < 1 := ht; omega)) _ (hsome _ (by omega))) (j - (i + 1)) (by omega)
      rw [show i + 1 + (j - (i + 1)) = j by omega] at q
      rw [q, ← List.getElem?_eq_getElem, List.getElem?_drop, show i + (j - (i + 1)) = j - 1 by omega, List.getElem?_map]
      exact hj

set_option maxHeartbeats 4000000 in
set_option maxRecDepth 100000 in
theorem insert_grow (w : World) (b n i vb x : Nat) (zs : List Nat) (h60 : n ≤ 1000000) (hr : w.ownsRow 0 90 1 (.slice (some ⟨b, 0, none⟩) n n) n (zs.map optr)) (hv : w.cell? ⟨vb, 0, none⟩ = some (optr x)) (hi : i < n) :
    Calls Try.prog 76 #[.slice (some ⟨b, 0, none⟩) n n, .int .i64 i, .slice (some ⟨vb, 0, none⟩) 1 1] w (InsPost w (.slice (some ⟨b, 0, none⟩) n n) n (putAt zs i x)) := by
  obtain ⟨cur, hb, hs, _, hm, hl, hcl, hf⟩ := owns_cell hr
  rw [List.length_map] at hl
  obtain ⟨i0, hi0, hz0, hzs, hzb⟩ := info_parts infoOrderPtr
  have hsz : (Try.prog.info? 90).map (·.size) = some 1 := by kernel_rfl
  have hbw : b < w.heap.size := (Array.getElem?_eq_some_iff.1 hb).1
  have hvw : vb < w.heap.size := World.block_lt_of_cell? w _ hv
  have hdl : ((zs.map optr).drop i).length = n - i := by simp [hl]
  have one : ∀ u ∈ zs.map optr, u.oneCell' = true := fun u hu => by
    obtain ⟨z, _, rfl⟩ := List.mem_map.1 hu
    rfl
  have hold : (Builtin.firstCells i0.size i (.slice (some ⟨b, 0, none⟩) i n)).run Try.prog w.drew = .ok ((zs.map optr).take i).toArray w.drew := by
    rw [hzs]
    refine run_firstCells_some w.drew 1 i ⟨b, 0, none⟩ i n ((zs.map optr).take i) (by simp; omega) fun j v hj => ?_
    rw [Addr.add_lit]
    rw [List.getElem?_take] at hj
    split at hj
    · exact (congrArg (fun k => w.cell? ⟨b, k, none⟩) (Nat.zero_add j)).trans (hcl j v hj)
    · cases hj
  obtain ⟨G, hG⟩ : ∃ G, G = grownCap w (n + 1) n 90 := ⟨_, rfl⟩
  obtain ⟨ROW, hROW⟩ : ∃ ROW : Array Value, ROW = ((zs.map optr).take i).toArray ++ Builtin.zeroCells (Value.pointer none).cells (n + 1 - i) ++ Builtin.zeroCells (Value.pointer none).cells (G - (n + 1)) := ⟨_, rfl⟩
  have hGn : n + 1 ≤ G := by rw [hG]; exact grownCap_ge w _ _ _
  have hGm : G ≤ maxLen := by
    have := grownCap_le_maxLen w (n + 1) n 90 (by unfold maxLen; omega)
    rwa [← hG] at this
  have hRs : ROW.size = G := by
    rw [hROW]
    simp [Builtin.zeroCells, Value.cells, hl]
    omega
  have hRi : ∀ j, j < i → ROW[j]? = (zs.map optr)[j]? := fun j hj => by
    rw [hROW, Array.append_assoc, Array.getElem?_append_left (by simp; omega)]
    simp [hj]
  obtain ⟨W1, hW1⟩ : ∃ W1, W1 = w.drew.alloc (.cells ROW 90) := ⟨_, rfl⟩
  have hrz : ∀ ty, (Builtin.append_ #[88, 3] ty #[.slice (some ⟨b, 0, none⟩) i n, .int .i64 ((n : Int) + 1 - (i : Int))]).run Try.prog w = .ok (.slice (some ⟨w.heap.size, 0, none⟩) (n + 1) G) W1 := fun ty => by
    have h := Lib.run_append_grow_zeros w 88 3 ty 90 i0 _ .i64 .i64 Try.underlying88 Try.underlying3 hi0 hz0 (some ⟨b, 0, none⟩) i n _ hold (n + 1 - i) (by omega) (by omega) (by omega) (by omega) (by rw [hzb]; omega) (by rw [hzb, show i + (n + 1 - i) = n + 1 by omega]; exact growslice_fits (by omega) (by omega))
    rw [show i + (n + 1 - i) = n + 1 by omega, ← hG, ← hROW, ← hW1] at h
    rw [show (n : Int) + 1 - (i : Int) = ((n + 1 - i : Nat) : Int) by omega]
    exact h
  have hb1 : W1.heap[w.heap.size]? = some (.cells ROW 90 (0, 0)) := by
    rw [hW1]
    show (w.heap.push _)[w.heap.size]? = _
    simp
  have kW : Kep non w W1 := by rw [hW1]; exact ((Kep.refl non w).drew).alloc _
  have hsome : ∀ j, j < G → (W1.cell? ⟨w.heap.size, j, none⟩).isSome = true := fun j hj => by simp [World.cell?, hb1, hRs, hj]
  have hfr : ∀ j, W1.frozen? ⟨w.heap.size, j, none⟩ = false := fun j => by simp [World.frozen?, hb1]
  have hcpA : ∀ ty dc, (Builtin.copy_ #[88, 88] ty #[.slice (some ⟨w.heap.size, i, none⟩) (n + 1 - i) dc, .slice (some ⟨vb, 0, none⟩) 1 1]).run Try.prog W1 = .ok (goInt 1) (W1.setCells w.heap.size i [optr x]) := fun ty dc =>
    run_copy_cells W1 _ _ ty 90 w.heap.size i _ dc ⟨vb, 0, none⟩ 1 1 [optr x] Try.underlying88 hsz (by simp only [Nat.min_def, List.length_singleton]; split <;> omega)
      (fun j v hj => by
        cases j with
        | zero => exact (kW.cell (p := ⟨vb, 0, none⟩) hv (fun q => q)).trans (by simpa using hj)
        | succ j => simp at hj)
      (fun j hj => hsome _ (by have hj0 : j < 1 := hj; omega)) (fun j hj => hfr _) (fun u hu => by rw [List.mem_singleton.1 hu]; rfl)
  obtain ⟨W2, hW2⟩ : ∃ W2, W2 = W1.setCells w.heap.size i [optr x] := ⟨_, rfl⟩
  have hcpB : ∀ ty dc sc, (Builtin.copy_ #[88, 88] ty #[.slice (some ⟨w.heap.size, i + 1, none⟩) (n - i) dc, .slice (some ⟨b, i, none⟩) (n - i) sc]).run Try.prog W2.drew = .ok (goInt ((zs.map optr).drop i).length) (W2.drew.setCells w.heap.size (i + 1) ((zs.map optr).drop i)) := fun ty dc sc =>
    run_copy_cells W2.drew _ _ ty 90 w.heap.size (i + 1) _ dc ⟨b, i, none⟩ _ sc _ Try.underlying88 hsz (by rw [hdl]; simp only [Nat.min_def]; split <;> omega)
      (fun j v hj => by
        rw [Addr.add_lit]
        show W2.cell? _ = _
        rw [hW2, World.cell?_setCells_out _ _ _ _ _ (fun h _ => absurd h (by show b ≠ w.heap.size; omega))]
        exact kW.cell (hcl (i + j) v (by rwa [List.getElem?_drop] at hj)) (fun q => q))
      (fun j hj => by
        show (W2.cell? _).isSome = true
        rw [hW2]
        exact isSome_setCells _ [optr x] i W1 (fun t ht => hsome _ (by have ht0 : t < 1 := ht; omega)) _ (hsome _ (by omega)))
      (fun j hj => by
        show W2.frozen? _ = false
        rw [hW2, World.frozen?_setCells]
        exact hfr _) (fun u hu => one u (List.mem_of_mem_drop hu))
  rw [← hW2] at hcpA
  have HP := hide (show InsPost w (.slice (some ⟨b, 0, none⟩) n n) n (putAt zs i x) (.returned (.slice (some ⟨w.heap.size, 0, none⟩) (n + 1) G)) (W2.drew.setCells w.heap.size (i + 1) ((zs.map optr).drop i)) by
    rw [hW2]
    exact grow_post hl hi hRs hGn hGm hRi kW hb1)
  have hz2 : ¬ ((i : Int) = (n : Int)) := by omega
  have hw1 : IntKind.i64.wrap ((i : Int) + 1) = (i : Int) + 1 := by rw [IntKind.wrap_i64]; omega
  have hin : i ≤ n := by omega
  have hGi : ¬ (G = i) := by omega
  have hGim : ¬ (G = i + 1) := by omega
  have hci : ¬ (n = i) := by omega
  have hb3 : (i : Int) ≤ (n : Int) + 1 := by omega
  have hb5 : (i : Int) ≤ (n : Int) := by omega
  have htn : ((i : Int) + 1).toNat = i + 1 := by omega
  have hb0 : (0 : Int) ≤ (i : Int) + 1 := by omega
  have hmx : Try.prog.follows .mixedOrders = true := by kernel_rfl
  clear hW1 hW2 one hcl hf hsome hr hb hs hv hRi hROW hRs hG hb1 kW hfr hold hbw hvw
  generalize w.heap.size = H at *
  go_enter Try.func76, Try.ntmps76
  go_wp2_with (first
    | (at_builtin; refine Lib.wpList_append_run _ rfl _ _ _ _ rfl _ _ rfl rfl _ _ (hrz _) ?_)
    | (at_builtin; refine wpList_copy_runI _ rfl _ _ 88 88 rfl _ _ rfl rfl (hcpA _ _) ?_))
  go_region_law_o (refine step_copy_runI rfl _ _ 88 88 rfl _ _ (by simp [Act.eval, Act.put]) (by simp [Act.eval, Act.put]) (hcpB _ _ _) ?_)
  go_wp2
  go_ret
  exact HP.out

/-- slices.Insert of one thing, wherever -/
theorem insert_any (w : World) (a : Option Addr) (n c i vb x : Nat) (zs : List Nat) (h60 : n ≤ 1000000) (hr : w.ownsRow 0 90 1 (.slice a n c) n (zs.map optr)) (hv : w.cell? ⟨vb, 0, none⟩ = some (optr x)) (hp : Plain w vb) (hvb : Value.ownBlock (.slice a n c) ≠ some vb) (hi : i ≤ n) :
    Calls Try.prog 76 #[.slice a n c, .int .i64 i, .slice (some ⟨vb, 0, none⟩) 1 1] w (InsPost w (.slice a n c) n (putAt zs i x)) := by
  have hl : zs.length = n := by have := hr.1; simpa using this
  by_cases e : i = n
  · subst e
    have q : putAt zs i x = zs ++ [x] := by
      unfold putAt
      rw [List.take_of_length_le (by omega), List.drop_eq_nil_of_le (by omega)]
    rw [q]
    exact insert_end w a i c vb x zs h60 hr hv
  · rcases hr.2 with ⟨q, q2⟩ | ⟨g, cap, cur, q, _, _, q3, _⟩
    · omega
    · injection q with q1 q2 q4
      subst q1 q4
      by_cases hc : n + 1 ≤ c
      · exact insert_shift w g n c i vb x zs h60 hr hv hp (fun e => hvb (by rw [e]; rfl)) (by omega) hc
      · obtain rfl : c = n := by omega
        exact insert_grow w g c i vb x zs h60 hr hv (by omega)
end

end Go.Proofs.Ytcfoobhihhndjaa
