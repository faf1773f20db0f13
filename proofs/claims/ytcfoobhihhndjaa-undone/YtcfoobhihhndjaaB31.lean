/- The plain market that a desk begins with. -/
import Derived.Test.YtcfoobhihhndjaaB07
import Derived.Test.YtcfoobhihhndjaaB10
import Derived.Test.YtcfoobhihhndjaaB30
import Derived.WalkKit
namespace Go.Proofs.Ytcfoobhihhndjaa

section
theorem upG_nil {α : Type} : ∀ G, upG (fun _ _ => ([] : List α)) G = []
  | 0 => rfl
  | G + 1 => by rw [upG, upG_nil G]; rfl
theorem upH_nil {α : Type} (G : Nat) : ∀ H, upH G (fun _ _ _ => ([] : List α)) H = []
  | 0 => rfl
  | H + 1 => by
    rw [upH, upH_nil G H]
    exact upG_nil G

theorem sumN_bd {f : Nat → Int} {B : Int} : ∀ {n : Nat}, (∀ i, i < n → f i ≤ B) → sumN f n ≤ n * B
  | 0, _ => by simp [sumN]
  | n + 1, h => by
    have h1 := sumN_bd (f := f) (B := B) (n := n) (fun i hi => h i (by omega))
    have h2 := h n (by omega)
    have e : ((n + 1 : Nat) : Int) * B = n * B + B := by rw [Int.natCast_add, Int.add_mul]; simp
    rw [e]
    simp only [sumN]
    omega

/-- traders below t have all; trader t has its money (pd), and pieces in halls below h, and of goods below g in hall h -/
def filM (rs : List Int) (t h g : Nat) (pd : Prop) [Decidable pd] : Mt :=
  { newM 4 2 rs with mo := fun i => if i < t ∨ (i = t ∧ pd) then 1000000 else 0, pc := fun i k j => if (i < t ∧ k < rs.length ∧ j < 2) ∨ (i = t ∧ ((k < h ∧ j < 2) ∨ (k = h ∧ j < g))) then 1000 else 0 }

section
variable {rs : List Int} {t h g : Nat}

theorem filM_all (rs : List Int) (t h g : Nat) (pd : Prop) [Decidable pd] : (filM rs t h g pd).all = [] := upH_nil 2 rs.length

theorem filM_start (rs : List Int) : filM rs 0 0 0 False = newM 4 2 rs := by
  simp [filM, newM]

theorem filM_pay (ht : t < 4) : payE (filM rs t 0 0 False) t 1000000 = 0 ∧ payM (filM rs t 0 0 False) t 1000000 = filM rs t 0 0 True := by
  have e : payE (filM rs t 0 0 False) t 1000000 = 0 := by
    have h1 : okI (filM rs t 0 0 False).T t := ⟨by omega, by show (t : Int) < (4 : Nat); omega⟩
    have h2 : okN 1000000 1000000000000 := ⟨by decide, by decide⟩
    have h3 : (filM rs t 0 0 False).sumM (filM rs t 0 0 False).T ≤ 4000000 := by
      rw [sumM_money]
      show (0 : Int) + sumN (filM rs t 0 0 False).mo 4 + heldS 4 (filM rs t 0 0 False).all ≤ _
      rw [filM_all, (adds_heldS 4).nil]
      have := sumN_bd (f := (filM rs t 0 0 False).mo) (B := 1000000) (n := 4) (fun i _ => by show (if i < t ∨ (i = t ∧ False) then (1000000 : Int) else 0) ≤ _; split <;> omega)
      omega
    unfold payE
    rw [if_neg (fun f => f h1), if_neg (fun f => f h2), if_neg (by omega)]
  refine ⟨e, ?_⟩
  rw [payM, if_pos e]
  simp only [filM, Mt.setMo, Mt.mk.injEq, true_and, and_true, Int.toNat_natCast]
  funext i
  by_cases q : i = t
  · subst q; simp
  · simp [q]

theorem filM_bring (ht : t < 4) (hh : h < rs.length) (h3 : rs.length ≤ 3) (hg : g < 2) : bringE (filM rs t h g True) t h g 1000 = 0 ∧ bringM (filM rs t h g True) t h g 1000 = filM rs t h (g + 1) True := by
  have e : bringE (filM rs t h g True) t h g 1000 = 0 := by
    have i1 : okI (filM rs t h g True).T t := ⟨by omega, by show (t : Int) < (4 : Nat); omega⟩
    have i2 : okI (filM rs t h g True).H h := ⟨by omega, by show (h : Int) < (rs.length : Nat); omega⟩
    have i3 : okI (filM rs t h g True).G g := ⟨by omega, by show (g : Int) < (2 : Nat); omega⟩
    have i4 : okN 1000 10000 := ⟨by decide, by decide⟩
    have l : lotsE (filM rs t h g True) t h g 1000 = 0 := by
      unfold lotsE
      rw [if_neg (fun f => f i1), if_neg (fun f => f i2), if_neg (fun f => f i3), if_neg (fun f => f i4)]
    have st : totTo (filM rs t h g True) (g : Int).toNat (filM rs t h g True).T ≤ 12000 := by
      rw [totTo_stock]
      show sumN (fun i => sumN (fun k => (filM rs t h g True).pc i k (g : Int).toNat) rs.length) 4 + sumN (fun k => keptS 4 []) rs.length + comeS 4 rs.length _ [] ≤ _
      have k1 : sumN (fun i => sumN (fun k => (filM rs t h g True).pc i k (g : Int).toNat) rs.length) 4 ≤ (4 : Nat) * ((rs.length : Int) * 1000) := sumN_bd fun i _ => sumN_bd fun k _ => by
        show (if _ then (1000 : Int) else 0) ≤ _
        split <;> omega
      have k2 : sumN (fun k => keptS 4 []) rs.length = 0 := by
        rw [sumN_congr (k := fun _ => 0) (fun _ _ => (adds_keptS 4).nil), sumN_zero]
      have k3 : comeS 4 rs.length ((g : Int).toNat : Int) [] = 0 := by
        have := come_app 4 rs.length ((g : Int).toNat : Int) [] []
        simp only [List.append_nil] at this
        omega
      omega
    unfold bringE
    rw [l, if_neg (by simp), if_neg (by omega)]
  refine ⟨e, ?_⟩
  rw [bringM, if_pos e]
  simp only [filM, Mt.setPc, Mt.mk.injEq, true_and, and_true, Int.toNat_natCast]
  funext i k j
  by_cases q : i = t ∧ k = h ∧ j = g
  · obtain ⟨rfl, rfl, rfl⟩ := q
    simp
  · rw [if_neg q]
    by_cases p : (i < t ∧ k < rs.length ∧ j < 2) ∨ (i = t ∧ ((k < h ∧ j < 2) ∨ (k = h ∧ j < g)))
    · rw [if_pos p, if_pos (by omega)]
    · rw [if_neg p, if_neg (by omega)]

theorem filM_hall : filM rs t h 2 True = filM rs t (h + 1) 0 True := by
  simp only [filM, Mt.mk.injEq, true_and, and_true]
  funext i k j
  by_cases p : (i < t ∧ k < rs.length ∧ j < 2) ∨ (i = t ∧ ((k < h ∧ j < 2) ∨ (k = h ∧ j < 2)))
  · rw [if_pos p, if_pos (by omega)]
  · rw [if_neg p, if_neg (by omega)]

theorem filM_trader : filM rs t rs.length 0 True = filM rs (t + 1) 0 0 False := by
  simp only [filM, Mt.mk.injEq, true_and, and_true]
  constructor
  · funext i
    by_cases p : i < t + 1
    · rw [if_pos (show i < t ∨ i = t by omega), if_pos (.inl p)]
    · rw [if_neg (show ¬ (i < t ∨ i = t) by omega), if_neg (fun f => by rcases f with f | f; omega; exact f.2)]
  · funext i k j
    by_cases p : (i < t ∧ k < rs.length ∧ j < 2) ∨ (i = t ∧ ((k < rs.length ∧ j < 2) ∨ (k = rs.length ∧ j < 0)))
    · rw [if_pos p, if_pos (by omega)]
    · rw [if_neg p, if_neg (by omega)]
end
end

/- The plain market that a desk begins with: one trade is done. -/
section
def sellO : Od := ⟨0, 0, 0, 0, 1, 50, 3, 0⟩
def buyO : Od := ⟨0, 1, 0, 0, 0, 60, 3, 2⟩
def fulM (rs : List Int) : Mt := filM rs 4 0 0 False
def soldM (rs : List Int) : Mt := (({ fulM rs with nu := 1 } : Mt).setPc 0 0 0 997).setBk 0 0 1 [⟨1, 0, 0, 0, 1, 50, 3, 0⟩]

theorem fulM_pc {rs : List Int} {t h g : Nat} (ht : t < 4) (hh : h < rs.length) (hg : g < 2) : (fulM rs).pc t h g = 1000 := by
  show (if (t < 4 ∧ h < rs.length ∧ g < 2) ∨ _ then (1000 : Int) else 0) = 1000
  rw [if_pos (.inl ⟨ht, hh, hg⟩)]
theorem fulM_mo {rs : List Int} {t : Nat} (ht : t < 4) : (fulM rs).mo t = 1000000 := by
  show (if t < 4 ∨ _ then (1000000 : Int) else 0) = 1000000
  rw [if_pos (.inl ht)]

theorem sold {rs : List Int} (h1 : 1 ≤ rs.length) : placeE (fulM rs) sellO = 0 ∧ placeI (fulM rs) sellO = 1 ∧ placeT (fulM rs) sellO = [] ∧ placeM (fulM rs) sellO = soldM rs := by
  have e1 : refE1 (fulM rs) sellO = 0 := by
    unfold refE1
    rw [if_neg (fun f => f ⟨by decide, by show (0 : Int) < (4 : Nat); decide⟩), if_neg (fun f => f ⟨by decide, by show (0 : Int) < (rs.length : Nat); omega⟩), if_neg (fun f => f ⟨by decide, by show (0 : Int) < (2 : Nat); decide⟩), if_neg (by decide)]
  have pc0 := fulM_pc (rs := rs) (t := 0) (h := 0) (g := 0) (by decide) (by omega) (by decide)
  have e : placeE (fulM rs) sellO = 0 := by
    rw [placeE_two e1, refE2, if_neg (by show ¬ 60 ≤ (filM rs 4 0 0 False).all.length; rw [filM_all]; decide), if_neg (fun f => by have := f.1; revert this; decide), if_neg (fun f => by have := f.2; rw [show sellO.t.toNat = 0 from rfl, show sellO.h.toNat = 0 from rfl, show sellO.g.toNat = 0 from rfl, pc0] at this; revert this; decide), if_neg (fun f => by have := f.1; revert this; decide), if_neg (fun f => by have := f.1; revert this; decide)]
  have nu0 : (fulM rs).nu = 0 := rfl
  have eP : placed (fulM rs) sellO = (({ fulM rs with nu := 1 } : Mt).setPc 0 0 0 997, ⟨1, 0, 0, 0, 1, 50, 3, 0⟩, []) := by
    unfold placed
    show matchM 0 0 0 [] (holdM { fulM rs with nu := 0 + 1 } { sellO with id := 0 + 1 }) { sellO with id := 0 + 1 } = _
    rw [matchM, holdM, if_neg (by decide)]
    show ((({ fulM rs with nu := 0 + 1 } : Mt).setPc 0 0 0 ((fulM rs).pc 0 0 0 - 3)), (⟨0 + 1, 0, 0, 0, 1, 50, 3, 0⟩ : Od), ([] : List Td)) = _
    rw [pc0]
    rfl
  refine ⟨e, ?_, ?_, ?_⟩
  · rw [placeI, if_pos e]; rfl
  · rw [placeT, if_pos e, eP]
  · rw [placeM, if_pos e, eP]
    show settleM (({ fulM rs with nu := 1 } : Mt).setPc 0 0 0 997) ⟨1, 0, 0, 0, 1, 50, 3, 0⟩ = _
    rw [settleM, if_pos ⟨by decide, .inl rfl⟩]
    rfl

/-- the market behind it all -/
def openM (rs : List Int) : Mt := placeM (soldM rs) buyO

theorem soldM_all {rs : List Int} (h1 : 1 ≤ rs.length) : (soldM rs).all.length = 1 := by
  have h := all_setBk (({ fulM rs with nu := 1 } : Mt).setPc 0 0 0 997) (h := 0) (g := 0) (s := 1) ⟨by show 0 < rs.length; omega, by show 0 < 2; decide, by decide⟩ [⟨1, 0, 0, 0, 1, 50, 3, 0⟩]
  have e1 : (({ fulM rs with nu := 1 } : Mt).setPc 0 0 0 997).all = [] := upH_nil 2 rs.length
  have e2 : (({ fulM rs with nu := 1 } : Mt).setPc 0 0 0 997).bk 0 0 1 = [] := rfl
  rw [e1, e2] at h
  simp only [List.length_nil, List.length_cons] at h
  have h' : ((soldM rs).all.length : Int) = _ := h
  omega

/-- what is known of it -/
structure Opn (rs : List Int) (m : Mt) : Prop where
  T : m.T = 4
  G : m.G = 2
  H : m.H = rs.length
  rt : ∀ h, h < rs.length → rs[h]? = some (m.rt h)
  ld : m.ld = []
  tm : m.tm = 0
  nu : m.nu = 2
  bk : ∀ a b c, m.bk a b c = []
  pc2 : ∀ h g, h < rs.length → g < 2 → m.pc 2 h g = 1000

theorem bought {rs : List Int} (h1 : 1 ≤ rs.length) (hr : ∀ x ∈ rs, 0 ≤ x ∧ x ≤ 100) : placeE (soldM rs) buyO = 0 ∧ placeI (soldM rs) buyO = 2 ∧ (∃ f, placeT (soldM rs) buyO = [⟨2, 1, 0, 50, 3, f⟩]) ∧ Opn rs (openM rs) := by
  have hrt : 0 ≤ (soldM rs).rt 0 ∧ (soldM rs).rt 0 ≤ 100 := by
    show 0 ≤ rs.getD 0 0 ∧ rs.getD 0 0 ≤ 100
    have e : rs.getD 0 0 = rs[0] := by
      have k : rs[0]? = some rs[0] := List.getElem?_eq_getElem (by omega)
      simp [List.getD, k]
    rw [e]
    exact hr _ (List.getElem_mem _)
  have mo1 : (soldM rs).mo 1 = 1000000 := show (fulM rs).mo 1 = 1000000 from fulM_mo (by decide)
  have bk1 : (soldM rs).bk 0 0 1 = [⟨1, 0, 0, 0, 1, 50, 3, 0⟩] := rfl
  have e1 : refE1 (soldM rs) buyO = 0 := by
    unfold refE1
    rw [if_neg (fun f => f ⟨by decide, by show (1 : Int) < (4 : Nat); decide⟩), if_neg (fun f => f ⟨by decide, by show (0 : Int) < (rs.length : Nat); omega⟩), if_neg (fun f => f ⟨by decide, by show (0 : Int) < (2 : Nat); decide⟩), if_neg (by decide)]
  have emet : (soldM rs).met buyO = 3 := rfl
  have ecost : (soldM rs).costOf buyO ≤ 1000000 := by
    show (180 : Int) + 180 * (soldM rs).rt 0 / 10000 ≤ _
    omega
  have e : placeE (soldM rs) buyO = 0 := by
    rw [placeE_two e1, refE2, if_neg (by rw [soldM_all h1]; decide), if_neg (fun f => by have := f.2; rw [show buyO.t.toNat = 1 from rfl, mo1] at this; omega), if_neg (fun f => by have := f.1; revert this; decide), if_neg (fun f => by have := f.1; revert this; decide), if_neg (fun f => by have := f.2; rw [emet] at this; revert this; decide)]
  obtain ⟨m2, hm2⟩ : ∃ m2, m2 = ({ soldM rs with nu := 2 } : Mt).setMo 1 (1000000 - 60 * 3) := ⟨_, rfl⟩
  obtain ⟨z, hz⟩ : ∃ z : Od, z = ⟨1, 0, 0, 0, 1, 50, 3, 0⟩ := ⟨_, rfl⟩
  obtain ⟨o, ho⟩ : ∃ o : Od, o = ⟨2, 1, 0, 0, 0, 60, 3, 2⟩ := ⟨_, rfl⟩
  have eP : placed (soldM rs) buyO = ((noteM (oneM m2 0 0 1 o z 3) 0 0 50 3).setBk 0 0 1 [], { o with q := 0 }, [oneT m2 0 o z 3]) := by
    unfold placed
    have eh : holdM { soldM rs with nu := (soldM rs).nu + 1 } { buyO with id := (soldM rs).nu + 1 } = m2 := by
      rw [holdM, if_pos (by rfl), hm2]
      show ({ soldM rs with nu := 1 + 1 } : Mt).setMo 1 ((soldM rs).mo 1 - 60 * 3) = _
      rw [mo1]
      rfl
    have eo : ({ buyO with id := (soldM rs).nu + 1 } : Od) = o := by rw [ho]; rfl
    rw [eh, eo]
    show matchM 0 0 1 [⟨1, 0, 0, 0, 1, 50, 3, 0⟩] m2 o = _
    rw [← hz, matchM, if_neg (by rw [ho]; decide), if_neg (by rw [ho, hz]; decide), if_neg (by rw [ho, hz]; decide), if_pos (by rw [ho, hz]; decide)]
    rw [show min o.q z.q = 3 by rw [ho, hz]; rfl, show z.p = 50 by rw [hz], show o.q - 3 = 0 by rw [ho]; rfl]
    rfl
  refine ⟨e, ?_, ⟨m2.fee 0 (50 * 3), ?_⟩, ?_⟩
  · rw [placeI, if_pos e]; rfl
  · rw [placeT, if_pos e, eP]
    show [oneT m2 0 o z 3] = _
    rw [ho, hz]
    rfl
  · have em : openM rs = releaseM ((noteM (oneM m2 0 0 1 o z 3) 0 0 50 3).setBk 0 0 1 []) 1 0 0 0 { o with q := 0 } := by
      rw [openM, placeM, if_pos e, eP]
      show settleM ((noteM (oneM m2 0 0 1 o z 3) 0 0 50 3).setBk 0 0 1 []) { o with q := 0 } = _
      rw [settleM, if_neg (fun f => by have : (0 : Int) < 0 := f.1; omega), ho]
      rfl
    have so := same_one m2 0 0 1 o z 3
    have sr := same_release ((noteM (oneM m2 0 0 1 o z 3) 0 0 50 3).setBk 0 0 1 []) 1 0 0 0 { o with q := 0 }
    rw [em]
    have eT : m2.T = 4 := by rw [hm2]; rfl
    have eG : m2.G = 2 := by rw [hm2]; rfl
    have eH : m2.H = rs.length := by rw [hm2]; rfl
    refine ⟨sr.T.trans (so.T.trans eT), sr.G.trans (so.G.trans eG), sr.H.trans (so.H.trans eH), fun h hh => ?_, sr.ld.trans (so.ld.trans (by rw [hm2]; rfl)), sr.tm.trans (so.tm.trans (by rw [hm2]; rfl)), sr.nu.trans (so.nu.trans (by rw [hm2]; rfl)), fun a b c => ?_, fun h g hh hg => ?_⟩
    · rw [sr.rt]
      show rs[h]? = some ((oneM m2 0 0 1 o z 3).rt h)
      rw [so.rt, hm2]
      show rs[h]? = some (rs.getD h 0)
      simp [hh]
    · rw [bk_release]
      show (if a = 0 ∧ b = 0 ∧ c = 1 then [] else (oneM m2 0 0 1 o z 3).bk a b c) = []
      split
      · rfl
      · rename_i k
        rw [one_bk (by decide)]
        show (if a = 0 ∧ b = 0 ∧ c = 1 then _ else m2.bk a b c) = []
        rw [if_neg k, hm2]
        show (if a = 0 ∧ b = 0 ∧ c = 1 then _ else []) = []
        rw [if_neg k]
    · rw [releaseM, if_pos rfl]
      show (oneM m2 0 0 1 o z 3).pc 2 h g = 1000
      rw [one_pc, if_neg (by rw [if_pos rfl, ho]; intro f; have := f.1; revert this; decide), hm2]
      show (if 2 = 0 ∧ h = 0 ∧ g = 0 then (997 : Int) else (fulM rs).pc 2 h g) = 1000
      rw [if_neg (fun f => by have := f.1; revert this; decide)]
      exact fulM_pc (by decide) hh hg

theorem newM_inv {rs : List Int} (h1 : 1 ≤ rs.length) (h4 : rs.length ≤ 4) (hr : ∀ x ∈ rs, 0 ≤ x ∧ x ≤ 100) {N : Int} (hN : 1000000 ≤ N ∧ N ≤ 50000000) : (newM 4 2 rs).Inv N := by
  have ha : (newM 4 2 rs).all = [] := upH_nil 2 rs.length
  have z1 : sumN (fun _ => (0 : Int)) 4 = 0 := sumN_zero 4
  refine ⟨hN, by show 1 ≤ 4; decide, by show 4 ≤ 8; decide, by show 1 ≤ 2; decide, by show 2 ≤ 4; decide, h1, h4, fun h hh => ?_, fun t ht => Int.le_refl _, fun _ _ _ _ _ _ => Int.le_refl _, by show 0 ≤ 20; decide, fun l hl => (by cases hl), (by rw [ha]; decide), fun _ _ _ o _ _ _ ho => (by cases ho), ⟨Int.le_refl _, by show (0 : Int) ≤ N; omega⟩, Int.le_refl _, ⟨Int.le_refl _, by show (0 : Int) ≤ 1000000000; decide⟩, ?_, fun g hg => ?_, fun a b _ _ => ?_, fun a b _ _ => ?_⟩
  · show 0 ≤ rs.getD h 0 ∧ rs.getD h 0 ≤ 100
    have hh' : h < rs.length := hh
    have e : rs.getD h 0 = rs[h] := by
      have k : rs[h]? = some rs[h] := List.getElem?_eq_getElem hh'
      simp [List.getD, k]
    rw [e]
    exact hr _ (List.getElem_mem _)
  · show (0 : Int) + sumN (fun _ => 0) 4 + heldS 4 (newM 4 2 rs).all + 0 ≤ _
    rw [ha, (adds_heldS 4).nil, z1]
    decide
  · show sumN (fun _ => sumN (fun _ => (0 : Int)) rs.length) 4 + sumN (fun _ => keptS 4 []) rs.length + comeS 4 rs.length g [] + 0 ≤ _
    have k1 : sumN (fun _ => sumN (fun _ => (0 : Int)) rs.length) 4 = 0 := by rw [sumN_congr (k := fun _ => 0) (fun _ _ => sumN_zero _), sumN_zero]
    have k2 : sumN (fun _ => keptS 4 []) rs.length = 0 := by rw [sumN_congr (k := fun _ => 0) (fun _ _ => (adds_keptS 4).nil), sumN_zero]
    have k3 : comeS 4 rs.length (g : Int) [] = 0 := by
      have := come_app 4 rs.length (g : Int) [] []
      simp only [List.append_nil] at this
      omega
    omega
  · show 0 ≤ (0 : Int) ∧ (0 : Int) + 10000 * ((newM 4 2 rs).all.length + 0) ≤ 20000 * 0
    rw [ha]; simp
  · show 0 ≤ (0 : Int) ∧ (0 : Int) + 1000000000 * ((newM 4 2 rs).all.length + 0) ≤ 2000000000 * 0
    rw [ha]; simp
end

/- Parts of a function's code. -/
section
def loopOf : Code → Option Code
  | .loop c => some c
  | .seq a b => match loopOf a with
    | some c => some c
    | none => loopOf b
  | .block _ c => loopOf c
  | .scope c => loopOf c
  | .cond _ a b => match loopOf a with
    | some c => some c
    | none => loopOf b
  | _ => none
def afterLoop : Code → Option Code
  | .seq a b => match loopOf a with
    | some _ => some b
    | none => afterLoop b
  | _ => none
end

/- The statements' desk: a market that is opened, its rates. -/
section
open Go.RowKit Go.Sort

theorem picks_snoc (rs : List Int) (k : Nat) (hk : k < rs.length) : picks (rs.take (k + 1)) = picks (rs.take k) ++ [(pk rs[k] 101 : Int)] := by
  rw [List.take_succ_eq_append_getElem hk]
  simp only [picks, List.map_append, List.map_cons, List.map_nil]
theorem picks_len (rs : List Int) (k : Nat) (hk : k ≤ rs.length) : (picks (rs.take k)).length = k := by simp [picks]; omega

set_option maxRecDepth 1000000 in
def OFr (w : World) (a : Act) : Prop := ∃ u0 u1 u4 u5 u6 u7 u8 u9 u10 u11 u12 u13 u14 u15 u16 u17 u18 u19 u20 u21 u22 u23 u24 u25 u26 u27 u28 u29 u30 u31 u32 u33 u34 u35 u36 u37 u38 u39 u40 u41 u42 u43 u44 u45 u46 u47 u48 u49 u50 u51 u52 u53 u54 u55 u56 u57 u58 u59 u60 u61 u62 u63 u64 u65 u66 u67 u68 u69 u70 u71 u72 u73 u74 u75 u76 u77 u78 u79 u80 u81 u82 u83 u84 u85 u86 u87 u88 u89 u90 u91 u92 u93 u94 u95 u96 u97 u98 u99 u100 u101 u102 u103 u104 u105 u106 u107 u108 u109 u110 u111 u112 u113 u114 u115 u116 u117 u118 u119 u120 u121 u122 u123 u124 u125 u126 u127 u128 u129 u130 u131 u132 u133 u134 u135 u136 u137 u138 u139 u140 u141 u142 u143 u144 u145 u146 u147 u148 u149 u150 u151 u152 u153 u154 u155 u156 u157 u158 u159 u160 u161 u162 u163 u164 u165 u166 u167 u168 u169 u170 u171 u172 u173 u174 u175 u176 u177 u178 u179 : Value, a = ⟨#[u0, u1, .pointer none, .pointer (some ⟨w.heap.size, 0, none⟩), u4, u5, u6, u7, u8, u9, u10, u11, u12, u13, u14, u15, u16, u17, u18, u19, u20, u21, u22, u23, u24, u25, u26, u27, u28, u29, u30, u31, u32, u33, u34, u35, u36, u37, u38, u39, u40, u41, u42, u43, u44, u45, u46, u47, u48, u49, u50, u51, u52, u53, u54, u55, u56, u57, u58, u59, u60, u61, u62, u63, u64, u65, u66, u67, u68, u69, u70, u71, u72, u73, u74, u75, u76, u77, u78, u79, u80, u81, u82, u83, u84, u85, u86, u87, u88, u89, u90, u91, u92, u93, u94, u95, u96, u97, u98, u99, u100, u101, u102, u103, u104, u105, u106, u107, u108, u109, u110, u111, u112, u113, u114, u115, u116, u117, u118, u119, u120, u121, u122, u123, u124, u125, u126, u127, u128, u129, u130, u131, u132, u133, u134, u135, u136, u137, u138, u139, u140, u141, u142, u143, u144, u145, u146, u147, u148, u149, u150, u151, u152, u153, u154, u155, u156, u157, u158, u159, u160, u161, u162, u163, u164, u165, u166, u167, u168, u169, u170, u171, u172, u173, u174, u175, u176, u177, u178, u179], []⟩

set_option maxHeartbeats 4000000 in
set_option maxRecDepth 1000000 in
theorem opened_head (w : World) (v : Value) (rs : List Int) (hr : IntsAt w v rs) (hi : ∀ x ∈ rs, i64R x) (Post : Ending → World → Prop)
    (hrest : ∀ a W, OFr w a → OpA w (picks (rs.take 3)) W → Code.wp Try.prog ((Try.f9.body.bind afterLoop).getD .skip) (bodyPost Try.prog Try.f9 Post) a W) :
    Calls Try.prog 9 #[v] w Post := by
  obtain ⟨va, vc, rfl⟩ := hr.form
  have HR := hide hr
  have HI := hide hi
  have HRest := hide hrest
  have A0 := OpA.start w
  obtain ⟨i0, hi0, hz0, hz1, hz2⟩ := info_parts infoInt
  clear hr hi hrest
  have H0 := hide A0
  clear A0
  go_enter Try.func9, Try.ntmps9
  go_wp2
  generalize w.alloc (.cells #[.pointer none, .int .i64 4, .int .i64 2, .slice none 0 0, .int .i64 0, .slice none 0 0] 29) = W0 at *
  rename_i Kx hKx
  have HK := hide (show ∀ a W, OFr w a → OpA w (picks (rs.take 3)) W → Kx a W from fun a W f S => hKx a W (HRest.out a W f S))
  clear hKx HRest
  go_loopw [4] (fun i wr => ∃ k : Nat, k ≤ rs.length ∧ k ≤ 3 ∧ i = .int .i64 k ∧ OpA w (picks (rs.take k)) wr) (fun i _ => 3 - (intOf i).toNat)
  case atStart => exact ⟨0, Nat.zero_le _, by omega, rfl, H0.out⟩
  case round =>
    clear H0
    obtain ⟨k, hk, hk3, rfl, A⟩ := hrel
    by_cases hlt : k < rs.length ∧ k < 3
    · obtain ⟨hl1, hl2⟩ := hlt
      have HS := hide (picks_snoc rs k hl1)
      have hpl : (picks (rs.take k)).length ≤ 3 := by rw [picks_len rs k hk]; omega
      rcases HR.out with ⟨_, h⟩ | ⟨rb, off, cap, h, hc⟩
      · exfalso; subst h; simp at hl1
      · simp only [Value.slice.injEq, true_and] at h
        obtain ⟨rfl, rfl⟩ := h
        have cr := A.kp.cell (hc k rs[k] (by simp [hl1])) (fun f => f)
        have HP := hide (pick_any rs[k] 101 (HI.out _ (List.getElem_mem hl1)) (by omega) (by omega))
        clear hc
        generalize rs[k] = x at *
        generalize picks (rs.take k) = xs at *
        have HA := hide A
        obtain ⟨sa, sc, hv, hown⟩ := A.v
        obtain ⟨c3, f3⟩ := hv
        have cr' : wr.drew.cell? ⟨rb, off + k, none⟩ = some (.int .i64 x) := cr
        have c3' : wr.drew.cell? ⟨w.heap.size, 3, none⟩ = some (.slice sa xs.length sc) := c3
        have f3' : wr.drew.frozen? ⟨w.heap.size, 3, none⟩ = false := f3
        have HO : ∀ o, (wr.drew.alloc o).ownsRow (w.heap.size + 1) 3 1 (.slice sa xs.length sc) xs.length (xs.map (.int .i64)) := fun o => ownsRow_kep hown (((Kep.refl non wr).drew).alloc o) (fun _ _ f => f)
        have lz : w.heap.size < wr.heap.size := World.block_lt_of_cell? wr _ c3
        have lr : rb < wr.heap.size := World.block_lt_of_cell? wr _ cr
        have nb : (Value.slice sa xs.length sc).ownBlock ≠ some w.heap.size := fun hb => by have := (hown.lt _ hb).1; omega
        have hl1' : (k : Int) < (rs.length : Int) := by omega
        clear A HK
        go_wp2
        go_region_law (first | (go_simp; go_at_call 10; refine (HP.out _).mono ?_; rintro e w' ⟨rfl, rfl⟩) | (refine step_append_lies _ rfl _ _ _ rfl (w.heap.size + 1) 3 i0 _ 1 8 Try.underlying24 hi0 hz0 hz1 hz2 rfl (by omega) (.slice sa xs.length sc) xs.length (xs.map (.int .i64)) rfl (by exact HO _) ⟨wr.heap.size, 0, none⟩ 1 1 [.int .i64 (pk x 101)] rfl rfl (by exact news_of_last' #[_] 3 rfl) (by simp [Value.oneCell']) (by omega) (by simp only [maxLen]; omega) (by omega) (by simp; omega) (wr.heap.size + 1) (by simp) ?_; intro gg cp w1 hown1 hgrow hat hlt1; have z6 : w1.cell? ⟨w.heap.size, 3, none⟩ = some (.slice sa xs.length sc) := (hgrow.cell_far ⟨w.heap.size, 3, none⟩ (by simp; omega) (Ne.symm nb)).trans (((Kep.refl non wr).drew.alloc _).cell c3 (fun f => f)); have z7 : w1.frozen? ⟨w.heap.size, 3, none⟩ = false := (hgrow.frozen_far ⟨w.heap.size, 3, none⟩ (by simp; omega) (Ne.symm nb)).trans ((((Own.mk c3 f3).kep ((Kep.refl non wr).drew.alloc _) (fun f => f))).free)))
        all_goals go_wp2
        all_goals refine ⟨⟨k + 1, by omega, by omega, by go_num, ?_⟩, by simp [intOf]; omega⟩
        all_goals rw [HS.out]
        all_goals exact HA.out.more (((Kep.refl non wr).drew).alloc _) ⟨c3, f3⟩ hown hgrow _ hown1
    · have HA := hide A
      have HE : Hid (picks (rs.take k) = picks (rs.take 3)) := hide (by
        by_cases e : k = 3
        · rw [e]
        · rw [List.take_of_length_le (by omega), List.take_of_length_le (by omega)])
      rw [HE.out] at HA
      clear A HE
      by_cases e : k < rs.length
      · have e1 : (k : Int) < (rs.length : Int) := by omega
        have e2 : ¬ (k : Int) < 3 := by omega
        clear hlt e
        go_wp2
        exact HK.out _ _ ⟨_, _, _, _, _, _, _, _, _, _, _, _, _, _, _, _, _, _, _, _, _, _, _, _, _, _, _, _, _, _, _, _, _, _, _, _, _, _, _, _, _, _, _, _, _, _, _, _, _, _, _, _, _, _, _, _, _, _, _, _, _, _, _, _, _, _, _, _, _, _, _, _, _, _, _, _, _, _, _, _, _, _, _, _, _, _, _, _, _, _, _, _, _, _, _, _, _, _, _, _, _, _, _, _, _, _, _, _, _, _, _, _, _, _, _, _, _, _, _, _, _, _, _, _, _, _, _, _, _, _, _, _, _, _, _, _, _, _, _, _, _, _, _, _, _, _, _, _, _, _, _, _, _, _, _, _, _, _, _, _, _, _, _, _, _, _, _, _, _, _, _, _, _, _, _, _, _, _, rfl⟩ HA.out
      · have e1 : ¬ (k : Int) < (rs.length : Int) := by omega
        clear hlt e
        go_wp2
        exact HK.out _ _ ⟨_, _, _, _, _, _, _, _, _, _, _, _, _, _, _, _, _, _, _, _, _, _, _, _, _, _, _, _, _, _, _, _, _, _, _, _, _, _, _, _, _, _, _, _, _, _, _, _, _, _, _, _, _, _, _, _, _, _, _, _, _, _, _, _, _, _, _, _, _, _, _, _, _, _, _, _, _, _, _, _, _, _, _, _, _, _, _, _, _, _, _, _, _, _, _, _, _, _, _, _, _, _, _, _, _, _, _, _, _, _, _, _, _, _, _, _, _, _, _, _, _, _, _, _, _, _, _, _, _, _, _, _, _, _, _, _, _, _, _, _, _, _, _, _, _, _, _, _, _, _, _, _, _, _, _, _, _, _, _, _, _, _, _, _, _, _, _, _, _, _, _, _, _, _, _, _, _, _, rfl⟩ HA.out
end

end Go.Proofs.Ytcfoobhihhndjaa
