/- The law's book: rest, whole. -/
import Derived.Test.YtcbfmolebomkdaaLd
namespace Go.Proofs.Ytcbfmolebomkdaa
open Go.RowKit

/-- the k-th of four marked lists -/
theorem Marked.at {D : Nat → Prop} {w : World} {v : Value} {mk : List Value} {z : Nat} (h : Marked D w v mk z) : ∃ nb, v = .slice (some ⟨nb, 0, none⟩) 4 4 ∧ ∀ k, k < 4 → ∃ a n c, w.cell? ⟨nb, k, none⟩ = some (.slice a n c) ∧ n ≤ 10000000 ∧ ∀ j, j < n → ∃ g, a = some ⟨g, 0, none⟩ ∧ ∀ i u, mk[i]? = some u → w.cell? ⟨g, j * z + i, none⟩ = some u := by
  obtain ⟨nb, s0, s1, s2, s3, h1, _, c0, c1, c2, c3, m0, m1, m2, m3⟩ := h
  have ml : ∀ {s : Value} {k : Nat}, w.cell? ⟨nb, k, none⟩ = some s → MarkList D w s mk z → ∃ a n c, w.cell? ⟨nb, k, none⟩ = some (.slice a n c) ∧ n ≤ 10000000 ∧ ∀ j, j < n → ∃ g, a = some ⟨g, 0, none⟩ ∧ ∀ i u, mk[i]? = some u → w.cell? ⟨g, j * z + i, none⟩ = some u := fun hc hm => by
    obtain ⟨a, n, c, rfl, hb, h⟩ := hm
    refine ⟨a, n, c, hc, hb, fun j hj => ?_⟩
    rcases h with h | ⟨g, h1, _, h2⟩
    · omega
    · exact ⟨g, h1, fun i u hu => h2 j hj i u hu⟩
  refine ⟨nb, h1, fun k hk => ?_⟩
  rcases k with _ | _ | _ | _ | k
  · exact ml c0 m0
  · exact ml c1 m1
  · exact ml c2 m2
  · exact ml c3 m3
  · omega

/-- the i-th entry of a book -/
theorem entry_at {w : World} {b : Nat} {e : TypeId} {v : Value} {xs : List Value} (h : w.ownsRow b e 1 v xs.length xs) (i : Nat) (hi : i < xs.length) : ∃ g c, v = .slice (some ⟨g, 0, none⟩) xs.length c ∧ w.cell? ⟨g, i, none⟩ = some xs[i] := by
  obtain ⟨g, c, rfl, _, _⟩ := h.form (by omega)
  refine ⟨g, c, rfl, ?_⟩
  rw [h.cellAt i (by omega)]
  simp

set_option maxRecDepth 100000 in
set_option maxHeartbeats 1000000 in
theorem rest_any (D : Nat → Prop) (w : World) (p B0 : Nat) (ev : Value) (es : List Value) (c4 : w.cell? ⟨p, 4, none⟩ = some (.slice none 0 0)) (c5 : w.cell? ⟨p, 5, none⟩ = some ev) (hev : w.ownsRow B0 112 1 ev es.length es) (hne : es.length ≤ 4000000)
    (hm : ∀ i (hi : i < es.length), Marked D w es[i] [.int .i64 (-7070 - (i : Int))] 1) :
    Calls Try.prog 20 #[.pointer (some ⟨p, 1, none⟩)] w fun e w' => e = .returned (.bool true) ∧ w' = w := by
  obtain ⟨ea, ec, hev0⟩ : ∃ a c, ev = .slice a es.length c := by
    rcases hev.2 with ⟨h1, h2⟩ | ⟨_, _, _, h1, _⟩
    · exact ⟨none, 0, by rw [h1, h2]⟩
    · exact ⟨_, _, h1⟩
  subst hev0
  have HE := hide hev
  have HM := hide hm
  clear hev hm
  go_enter Try.func20, Try.ntmps20
  go_wp2
  go_loop [3] (fun i => i = .int .i64 0) (fun _ => 0)
  case atStart => rfl
  case round =>
    subst hrel
    go_wp2
    go_loop [6] (fun i => ∃ k : Nat, k ≤ es.length ∧ i = .int .i64 k) (fun i => es.length - (intOf i).toNat)
    case atStart => exact ⟨0, by omega, rfl⟩
    case round =>
      obtain ⟨i, hi, rfl⟩ := hrel
      by_cases hlt : i < es.length
      · obtain ⟨eb, ec', he, ci⟩ := entry_at HE.out i hlt
        simp only [Value.slice.injEq, true_and] at he
        obtain ⟨rfl, rfl⟩ := he
        obtain ⟨nb, hnb, hat⟩ := (HM.out i hlt).at
        rw [hnb] at ci
        have HA := hide hat
        clear hat hnb
        go_wp2
        go_loop [7] (fun x => ∃ k : Nat, k ≤ 4 ∧ x = .int .i64 k) (fun x => 4 - (intOf x).toNat)
        case atStart => exact ⟨0, by omega, rfl⟩
        case round =>
          obtain ⟨k, hk, rfl⟩ := hrel
          by_cases hk4 : k < 4
          · obtain ⟨a, n, c, ck, hbn, hj⟩ := HA.out k hk4
            have HJ := hide hj
            clear hj
            have hk4' : (k : Int) < 4 := by omega
            go_wp2
            go_loop [8] (fun x => ∃ j : Nat, j ≤ n ∧ x = .int .i64 j) (fun x => n - (intOf x).toNat)
            case atStart => exact ⟨0, by omega, rfl⟩
            case round =>
              obtain ⟨j, hj, rfl⟩ := hrel
              by_cases hjn : j < n
              · obtain ⟨g, rfl, hcell⟩ := HJ.out j hjn
                have cj : w.cell? ⟨g, j, none⟩ = some (.int .i64 (-7070 - (i : Int))) := by simpa using hcell 0 _ rfl
                clear hcell
                go_wp2
                exact ⟨⟨j + 1, by omega, by go_num⟩, by simp [intOf]; omega⟩
              · go_wp2
                exact ⟨⟨k + 1, by omega, by go_num⟩, by simp [intOf]; omega⟩
          · go_wp2
            exact ⟨⟨i + 1, by omega, by go_num⟩, by simp [intOf]; omega⟩
      · go_wp2
        go_ret
        exact ⟨rfl, rfl⟩

set_option maxRecDepth 100000 in
set_option maxHeartbeats 1000000 in
theorem whole_any (D : Nat → Prop) (w : World) (p B0 : Nat) (av ev : Value) (al es : List Value) (c1 : w.cell? ⟨p, 1, none⟩ = some av) (c2 : w.cell? ⟨p, 2, none⟩ = some (.slice none 0 0)) (c3 : w.cell? ⟨p, 3, none⟩ = some (.slice none 0 0)) (c4 : w.cell? ⟨p, 4, none⟩ = some (.slice none 0 0)) (c5 : w.cell? ⟨p, 5, none⟩ = some ev)
    (hav : w.ownsRow B0 60 1 av al.length al) (hna : al.length ≤ 4000000) (hma : ∀ i (hi : i < al.length), Marked D w al[i] [.int .i64 (-7070 - (i : Int)), .int .i64 0, .int .i64 0, .int .i64 0, .int .i64 0] 5)
    (hev : w.ownsRow B0 112 1 ev es.length es) (hne : es.length ≤ 4000000) (hm : ∀ i (hi : i < es.length), Marked D w es[i] [.int .i64 (-7070 - (i : Int))] 1) :
    Calls Try.prog 7 #[.pointer (some ⟨p, 1, none⟩)] w fun e w' => e = .returned (.bool true) ∧ w' = w := by
  have HR := hide (rest_any D w p B0 ev es c4 c5 hev hne hm)
  obtain ⟨ea, ec, hav0⟩ : ∃ a c, av = .slice a al.length c := by
    rcases hav.2 with ⟨h1, h2⟩ | ⟨_, _, _, h1, _⟩
    · exact ⟨none, 0, by rw [h1, h2]⟩
    · exact ⟨_, _, h1⟩
  subst hav0
  have HE := hide hav
  have HM := hide hma
  clear hav hma hm hev c5 c4
  go_enter Try.func7, Try.ntmps7
  go_wp2
  go_loop [3] (fun i => ∃ k : Nat, k ≤ al.length ∧ i = .int .i64 k) (fun i => al.length - (intOf i).toNat)
  case atStart => exact ⟨0, by omega, rfl⟩
  case round =>
    obtain ⟨i, hi, rfl⟩ := hrel
    by_cases hlt : i < al.length
    · obtain ⟨eb, ec', he, ci⟩ := entry_at HE.out i hlt
      simp only [Value.slice.injEq, true_and] at he
      obtain ⟨rfl, rfl⟩ := he
      obtain ⟨nb, hnb, hat⟩ := (HM.out i hlt).at
      rw [hnb] at ci
      have HA := hide hat
      clear hat hnb
      go_wp2
      go_loop [4] (fun x => ∃ k : Nat, k ≤ 4 ∧ x = .int .i64 k) (fun x => 4 - (intOf x).toNat)
      case atStart => exact ⟨0, by omega, rfl⟩
      case round =>
        obtain ⟨k, hk, rfl⟩ := hrel
        by_cases hk4 : k < 4
        · obtain ⟨a, n, c, ck, hbn, hj⟩ := HA.out k hk4
          have HJ := hide hj
          clear hj
          have hk4' : (k : Int) < 4 := by omega
          go_wp2
          go_loop [5] (fun x => ∃ j : Nat, j ≤ n ∧ x = .int .i64 j) (fun x => n - (intOf x).toNat)
          case atStart => exact ⟨0, by omega, rfl⟩
          case round =>
            obtain ⟨j, hj, rfl⟩ := hrel
            by_cases hjn : j < n
            · obtain ⟨g, rfl, hcell⟩ := HJ.out j hjn
              have y0 : w.cell? ⟨g, j * 5, none⟩ = some (.int .i64 (-7070 - (i : Int))) := hcell 0 _ rfl
              have y1 : w.cell? ⟨g, j * 5 + 1, none⟩ = some (.int .i64 0) := hcell 1 _ rfl
              have y2 : w.cell? ⟨g, j * 5 + 2, none⟩ = some (.int .i64 0) := hcell 2 _ rfl
              have y3 : w.cell? ⟨g, j * 5 + 3, none⟩ = some (.int .i64 0) := hcell 3 _ rfl
              have y4 : w.cell? ⟨g, j * 5 + 4, none⟩ = some (.int .i64 0) := hcell 4 _ rfl
              clear hcell
              go_wp2
              exact ⟨⟨j + 1, by omega, by go_num⟩, by simp [intOf]; omega⟩
            · go_wp2
              exact ⟨⟨k + 1, by omega, by go_num⟩, by simp [intOf]; omega⟩
        · go_wp2
          exact ⟨⟨i + 1, by omega, by go_num⟩, by simp [intOf]; omega⟩
    · go_wp2
      go_loop [6] (fun i => i = .int .i64 0) (fun _ => 0)
      case atStart => rfl
      case round =>
        subst hrel
        go_wp2
        go_loop [9] (fun i => i = .int .i64 0) (fun _ => 0)
        case atStart => rfl
        case round =>
          subst hrel
          go_wp2_with fail
          refine HR.out.mono ?_
          rintro e w' ⟨rfl, rfl⟩
          go_wp2
          go_ret
          exact ⟨rfl, rfl⟩

end Go.Proofs.Ytcbfmolebomkdaa
