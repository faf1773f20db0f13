/- The program's market: New. -/
import Derived.Test.YtcbfmolebomkdaaI
import Derived.Test.YtcbfmolebomkdaaR
import Derived.Deep.RegionWith
namespace Go.Proofs.Ytcbfmolebomkdaa
open Go.RowKit Go.Sort

theorem info116 : (Try.prog.info? 116).map (fun i => (i.zero, i.size, i.bytes)) = some (some (.agg #[.int .i64 0, .int .i64 0, .int .i64 0, .int .i64 0, .int .i64 0, .int .i64 0, .int .i64 0, .int .i64 0, .int .i64 0, .int .i64 0, .int .i64 0, .int .i64 0, .int .i64 0, .int .i64 0, .int .i64 0, .int .i64 0, .int .i64 0]), 17, 136) := by kernel_rfl

def fitB (rs : List Int) : Bool := decide (1 ≤ rs.length) && decide (rs.length ≤ 4) && rs.all rateOk

theorem all_split (rs : List Int) (j : Nat) (hj : j < rs.length) (h : rateOk rs[j] = false) : rs.all rateOk = false := by
  rw [List.all_eq_false]
  exact ⟨rs[j], by simp, by simp [h]⟩

set_option maxRecDepth 100000 in
set_option maxHeartbeats 1000000 in
theorem ratesFit_any (w : World) (v : Value) (rs : List Int) (hr : IntsAt w v rs) (hl : rs.length ≤ 1048576) :
    Calls Try.prog 65 #[v] w fun e w' => e = .returned (.bool (fitB rs)) ∧ w' = w := by
  obtain ⟨a, c, rfl⟩ := hr.form
  have HR := hide hr
  clear hr
  by_cases hn : 1 ≤ (rs.length : Int) ∧ (rs.length : Int) ≤ 4
  · have HB : Hid (fitB rs = rs.all rateOk) := hide (by simp only [fitB]; rw [decide_eq_true (by omega), decide_eq_true (by omega)]; simp)
    go_enter Try.func65, Try.ntmps65
    go_wp2_with (go_at_call 64; refine (within_yes _ _ _ _ hn).mono ?_; rintro e w' ⟨rfl, rfl⟩)
    go_loop [11] (fun i => ∃ j : Nat, j ≤ rs.length ∧ i = .int .i64 j ∧ (rs.take j).all rateOk = true) (fun i => rs.length - (intOf i).toNat)
    case atStart => exact ⟨0, Nat.zero_le _, rfl, by simp⟩
    case round =>
      obtain ⟨j, hj, rfl, hal⟩ := hrel
      have HAL := hide hal
      clear hal
      by_cases hlt : j < rs.length
      · have HA := hide (all_snoc rs j hlt)
        have HX := hide (all_split rs j hlt)
        rcases HR.out with ⟨_, h⟩ | ⟨rb, off, cap, h, hc⟩
        · subst h; simp at hlt
        · simp only [Value.slice.injEq, true_and] at h
          obtain ⟨rfl, rfl⟩ := h
          have q := hc j rs[j] (by simp)
          have hq : Hid (rateOk rs[j] = (decide (0 ≤ rs[j]) && decide (rs[j] ≤ 100))) := hide rfl
          clear hc
          generalize rs[j] = x at *
          by_cases hx : 0 ≤ x ∧ x ≤ 100
          · go_wp2_with (go_at_call 64; refine (within_yes _ _ _ _ hx).mono ?_; rintro e w' ⟨rfl, rfl⟩)
            go_round
            case rel => exact ⟨j + 1, by omega, by go_num, by rw [HA.out, HAL.out, hq.out]; simp [hx]⟩
            case measure => simp [intOf]; omega
          · go_wp2_with (go_at_call 64; refine (within_no _ _ _ _ hx).mono ?_; rintro e w' ⟨rfl, rfl⟩)
            go_ret
            refine ⟨?_, rfl⟩
            rw [HB.out, HX.out (by rw [hq.out]; simp; omega)]
            rfl
      · have e1 : j = rs.length := by omega
        subst e1
        go_wp2
        go_ret
        refine ⟨?_, rfl⟩
        have := HAL.out
        rw [List.take_of_length_le (Nat.le_refl _)] at this
        rw [HB.out, this]
        rfl
  · have HB : Hid (fitB rs = false) := hide (by simp only [fitB, Bool.and_eq_false_iff, decide_eq_false_iff_not]; left; omega)
    go_enter Try.func65, Try.ntmps65
    go_wp2_with (go_at_call 64; refine (within_no _ _ _ _ hn).mono ?_; rintro e w' ⟨rfl, rfl⟩)
    go_ret
    exact ⟨by rw [HB.out]; rfl, rfl⟩

set_option maxRecDepth 100000 in
set_option maxHeartbeats 400000 in
theorem clone_any (w : World) (rb off rc : Nat) (rs : List Int) (hc : ∀ i x, rs[i]? = some x → w.cell? ⟨rb, off + i, none⟩ = some (.int .i64 x)) (n1 : 1 ≤ rs.length) (n4 : rs.length ≤ 4) :
    Calls Try.prog 66 #[.slice (some ⟨rb, off, none⟩) rs.length rc] w fun e w' => ∃ gg cap, e = .returned (.slice (some ⟨gg, 0, none⟩) rs.length cap) ∧ w.heap.size ≤ gg ∧ Keeps [] w w' := by
  obtain ⟨i0, hi0, hz0, hz1, hz2⟩ := info_parts info3
  have HC := hide hc
  clear hc
  have hnil := fun (w : World) (a : Option Addr) (n c : Nat) => Lib.run_eql_slice_nil (P := Try.prog) w 38 3 a n c 0 0 Try.underlying38
  go_enter Try.func66, Try.ntmps66
  go_wp2_with (at_builtin; refine wpList_append_lies _ rfl _ _ _ rfl 0 3 i0 _ 1 8 Try.underlying38 hi0 hz0 hz1 hz2 rfl (by omega) _ 0 [] rfl (by exact World.ownsRow_lit w #[] 0 (Nat.zero_le _) (Nat.zero_le _) rfl) ⟨rb, off, none⟩ rs.length rc (rs.map (.int .i64)) rfl (by simp) (by exact ints_news HC.out _) (ints_one rs) (by omega) (by simp only [maxLen]; omega) (by omega) (by simp) (w.heap.size + 1) (by simp) ?_)
  intro gg cap w1 hown1 hgrow1 hat1 hlt1
  go_wp2
  go_ret
  refine ⟨gg, cap, by simp, ?_, ?_⟩
  · rcases hat1 with h | h
    · have : w.heap.size = gg := by simpa [Value.ownBlock] using h
      omega
    · omega
  · exact (((Keeps.refl _ _).alloc _)).grown hgrow1 (by intro k hk; right; have : w.heap.size = k := (by simpa [Value.ownBlock] using hk); omega)

theorem sizeOk_eq (t g : Int) (rs : List Int) : sizeOk t g rs = (inR t 1 8 && inR g 1 4 && fitB rs) := by
  rw [Bool.eq_iff_iff]
  simp only [sizeOk, inR, fitB, Bool.and_eq_true, decide_eq_true_eq]
  constructor
  · rintro ⟨⟨⟨⟨⟨⟨h1, h2⟩, h3⟩, h4⟩, h5⟩, h6⟩, h7⟩
    exact ⟨⟨⟨h1, h2⟩, h3, h4⟩, ⟨h5, h6⟩, h7⟩
  · rintro ⟨⟨⟨h1, h2⟩, h3, h4⟩, ⟨h5, h6⟩, h7⟩
    exact ⟨⟨⟨⟨⟨⟨h1, h2⟩, h3⟩, h4⟩, h5⟩, h6⟩, h7⟩

set_option maxHeartbeats 400000 in
theorem progNew_no (w : World) (t g : Int) (v : Value) (rs : List Int) (hr : IntsAt w v rs) (hl : rs.length ≤ 1048576) (hn : sizeOk t g rs = false) :
    Calls Try.prog 25 #[.int .i64 t, .int .i64 g, v] w fun e w' => e = .returned (.tuple #[.pointer none, .int .i64 1]) ∧ w' = w := by
  have HF := hide (ratesFit_any w v rs hr hl)
  rw [sizeOk_eq] at hn
  cases h1 : inR t 1 8
  · have i1 := hide h1
    clear hr hn h1
    go_enter Try.func25, Try.ntmps25
    go_wp2_with (first | (go_at_call 64; refine (within_b _ _ _ _).mono ?_; rw [i1.out]; rintro e w' ⟨rfl, rfl⟩))
    go_ret2
    exact ⟨rfl, rfl⟩
  · have i1 := hide h1
    cases h2 : inR g 1 4
    · have i2 := hide h2
      clear hr hn h1 h2
      go_enter Try.func25, Try.ntmps25
      go_wp2_with (first | (go_at_call 64; refine (within_b _ _ _ _).mono ?_; (first | rw [i1.out] | rw [i2.out]); rintro e w' ⟨rfl, rfl⟩))
      go_ret2
      exact ⟨rfl, rfl⟩
    · have i2 := hide h2
      have h3 : fitB rs = false := by rw [h1, h2] at hn; simpa using hn
      rw [h3] at HF
      clear hr hn h1 h2
      go_enter Try.func25, Try.ntmps25
      go_wp2_with (first | (go_at_call 64; refine (within_b _ _ _ _).mono ?_; (first | rw [i1.out] | rw [i2.out]); rintro e w' ⟨rfl, rfl⟩) | (go_at_call 65; refine HF.out.mono ?_; rintro e w' ⟨rfl, rfl⟩))
      go_ret2
      exact ⟨rfl, rfl⟩

/-- the accounts that a make lays -/
def zeros17 : Array Value := #[.int .i64 0, .int .i64 0, .int .i64 0, .int .i64 0, .int .i64 0, .int .i64 0, .int .i64 0, .int .i64 0, .int .i64 0, .int .i64 0, .int .i64 0, .int .i64 0, .int .i64 0, .int .i64 0, .int .i64 0, .int .i64 0, .int .i64 0]
def acctBlock (T : Nat) : Obj := .cells (madeCells zeros17 (T * 17)) 116

theorem acct_at {w : World} {B T : Nat} (h : w.heap[B]? = some (acctBlock T)) (k : Nat) (hk : k < T * 17) : Own w ⟨B, k, none⟩ (.int .i64 0) := by
  refine ⟨?_, frozen_of_row w B k _ _ h⟩
  rw [cell_of_row w B k _ _ _ h]
  have hz : ∀ i, i < 17 → zeros17[i]? = some (.int .i64 0) := by
    intro i hi
    rcases i with _ | _ | _ | _ | _ | _ | _ | _ | _ | _ | _ | _ | _ | _ | _ | _ | _ | i
    all_goals first | rfl | omega
  have hm := hz (k % 17) (Nat.mod_lt _ (by decide))
  simp only [madeCells]
  simp [hk]
  show zeros17[k % 17]! = _
  rw [getElem!_def, hm]

/-- a market that is just made -/
theorem pnew_end {w w2 w3 : World} {T G n ab gg cap : Nat} (k2 : Keeps [] w w2) (hab : w2.heap[ab]? = some (acctBlock T)) (hw : w.heap.size ≤ ab) (k3 : w3 = w2.alloc (.cells #[.int .i64 G, .slice (some ⟨gg, 0, none⟩) n cap, .slice (some ⟨ab, 0, none⟩) T T, .slice none 0 0, .int .i64 0] 120)) :
    ∃ L : PL, L.x = w2.heap.size ∧ PRep w3 L (newM T G n) ∧ Keeps [] w w3 ∧ ∀ b, b ∈ L.fp → w.heap.size ≤ b := by
  subst k3
  have h := heap_alloc_new w2 (.cells #[.int .i64 G, .slice (some ⟨gg, 0, none⟩) n cap, .slice (some ⟨ab, 0, none⟩) T T, .slice none 0 0, .int .i64 0] 120)
  have c := fun j => cell_of_row _ _ j _ _ _ h
  have f := fun j => frozen_of_row _ _ j _ _ h
  have hlt : ab < w2.heap.size := (Array.getElem?_eq_some_iff.1 hab).1
  have hs := k2.size
  have ko : Keeps [] w2 (w2.alloc (.cells #[.int .i64 G, .slice (some ⟨gg, 0, none⟩) n cap, .slice (some ⟨ab, 0, none⟩) T T, .slice none 0 0, .int .i64 0] 120)) := (Keeps.refl _ _).alloc _
  refine ⟨⟨w2.heap.size, gg, cap, ab, .slice none 0 0⟩, rfl, ⟨⟨c 0, f 0⟩, ⟨c 1, f 1⟩, ⟨c 2, f 2⟩, ⟨c 3, f 3⟩, ⟨c 4, f 4⟩, fun t ht => ?_, fun t h g ht hh hg => ?_, World.ownsRow_nil _ _ _ _, by simp; omega, by simp [Value.ownBlock], by simp [Value.ownBlock]⟩, k2.trans ko, ?_⟩
  · exact (acct_at hab (t * 17) (by simp only [newM] at ht; omega)).keep ko (by simp)
  · exact (acct_at hab (t * 17 + 1 + h * 4 + g) (by simp only [newM] at ht; omega)).keep ko (by simp)
  · intro b hb
    simp only [PL.fp, Value.ownBlock, Option.toList_none, List.append_nil, List.mem_cons, List.not_mem_nil, or_false] at hb
    omega

set_option maxRecDepth 100000 in
set_option maxHeartbeats 1000000 in
theorem progNew_yes (w : World) (T G : Nat) (v : Value) (rs : List Int) (hr : IntsAt w v rs) (hn : sizeOk T G rs = true) :
    Calls Try.prog 25 #[.int .i64 T, .int .i64 G, v] w fun e w' => ∃ L : PL, e = .returned (.tuple #[.pointer (some ⟨L.x, 0, none⟩), .int .i64 0]) ∧ PRep w' L (newM T G rs.length) ∧ Keeps [] w w' ∧ ∀ b, b ∈ L.fp → w.heap.size ≤ b := by
  have hs := hn
  simp only [sizeOk, Bool.and_eq_true, decide_eq_true_eq] at hs
  obtain ⟨⟨⟨⟨⟨⟨t1, t8⟩, g1⟩, g4⟩, n1⟩, n4⟩, _⟩ := hs
  have HF := hide (ratesFit_any w v rs hr (by omega))
  rw [sizeOk_eq] at hn
  simp only [Bool.and_eq_true] at hn
  obtain ⟨⟨h1, h2⟩, h3⟩ := hn
  rw [h3] at HF
  have i1 := hide h1
  have i2 := hide h2
  clear h1 h2 h3
  rcases hr with ⟨_, h⟩ | ⟨rb, off, rc, rfl, hc⟩
  · subst h; simp at n1
  have HC : Hid (∀ W, Keeps [] w W → Calls Try.prog 66 #[.slice (some ⟨rb, off, none⟩) rs.length rc] W fun e w' => ∃ gg cap, e = .returned (.slice (some ⟨gg, 0, none⟩) rs.length cap) ∧ W.heap.size ≤ gg ∧ Keeps [] W w') :=
    hide fun W k => clone_any W rb off rc rs (fun i x hx => k.cell (hc i x hx) (by simp)) n1 n4
  clear hc
  obtain ⟨i0, hi0, hz0, hz1, hz2⟩ := info_parts info116
  have hmk : ∀ u : World, (Instr.makeSlice 117 (.int .i64 (T : Int)) (.int .i64 (T : Int))).run Try.prog u = .ok (.slice (some ⟨u.heap.size, 0, none⟩) T T) (u.alloc (acctBlock T)) := fun u => by
    have h := run_make (P := Try.prog) u 117 116 i0 _ Try.underlying117 hi0 hz0 .i64 .i64 (T : Int) (T : Int) (by omega) (Int.le_refl _) (by rw [hz2]; omega) (by omega)
    rw [Int.toNat_natCast, hz1] at h
    exact h
  go_enter Try.func25, Try.ntmps25
  go_wp2_with (first | (go_at_call 64; refine (within_b _ _ _ _).mono ?_; (first | rw [i1.out] | rw [i2.out]); rintro e w' ⟨rfl, rfl⟩) | (go_at_call 65; refine HF.out.mono ?_; rintro e w' ⟨rfl, rfl⟩))
  go_region_with (go_at_call 66; refine (HC.out _ ?_).mono ?_; (first | exact Keeps.refl _ _ | exact (Keeps.refl [] _).drew | exact ((Keeps.refl [] _).alloc _).drew); rintro e w1 ⟨gg, cap, rfl, hgg, hk1⟩)
  all_goals go_wp2
  all_goals go_ret2
  · have k0 : Keeps [] w' (w1.alloc (acctBlock T)) := (((Keeps.refl [] _).drew).trans hk1).alloc _
    have hs := hk1.size
    obtain ⟨L, h1, h2, h3, h4⟩ := pnew_end (G := G) (n := rs.length) (gg := gg) (cap := cap) k0 (heap_alloc_new w1 (acctBlock T)) (by simpa using hs) rfl
    exact ⟨L, by rw [h1, World.size_alloc]; rfl, h2, h3, h4⟩
  · have k0 : Keeps [] w' w1 := (((Keeps.refl [] _).alloc _).drew).trans hk1
    have hb := hk1.block w'.heap.size (by simp) (by simp)
    have hb' : w1.heap[w'.heap.size]? = some (acctBlock T) := by rw [hb]; exact heap_alloc_new w' _
    obtain ⟨L, h1, h2, h3, h4⟩ := pnew_end (G := G) (n := rs.length) (gg := gg) (cap := cap) k0 hb' (Nat.le_refl _) rfl
    exact ⟨L, by rw [h1]; rfl, h2, h3, h4⟩

end Go.Proofs.Ytcbfmolebomkdaa
