/- The law: brought. -/
import Derived.Test.YtcbfmolebomkdaaT
import Derived.Test.YtcbfmolebomkdaaV
import Derived.Test.YtcbfmolebomkdaaW
import Derived.Test.YtcbfmolebomkdaaX
namespace Go.Proofs.Ytcbfmolebomkdaa
open Go.RowKit Go.Sort

theorem setPc_ok {m : Mk} {N N' : Int} (ok : m.Ok N) (hN : N ≤ N') (bN : N' ≤ 1000000000000) (t h g : Nat) (x : Int) (hx : 0 ≤ x ∧ x ≤ N') : (m.setPc t h g x).Ok N' :=
  ⟨bN, ok.T1, ok.T8, ok.G1, ok.G4, ok.H1, ok.H4, ok.mo, fun t' h' g' ht hh hg => by
    have := ok.pc t' h' g' ht hh hg
    simp only [Mk.setPc]
    split <;> omega, ok.l20, ok.ld, ok.tm⟩

theorem ok_mono {m : Mk} {N N' : Int} (ok : m.Ok N) (hN : N ≤ N') (bN : N' ≤ 1000000000000) : m.Ok N' :=
  ⟨bN, ok.T1, ok.T8, ok.G1, ok.G4, ok.H1, ok.H4, ok.mo, fun t' h' g' ht hh hg => by have := ok.pc t' h' g' ht hh hg; omega, ok.l20, ok.ld, ok.tm⟩

theorem payM_ok {m : Mk} {N : Int} (ok : m.Ok N) (t x : Int) : (payM m t x).Ok N := by
  unfold payM
  split
  · rename_i h
    unfold payE at h
    by_cases h1 : okI m.T t
    · by_cases h2 : okN x 1000000000000
      · by_cases h3 : 1000000000000 < x + sumMo m.mo m.T
        · simp [h1, h2, h3] at h
        · have hk : t.toNat < m.T := by have := h1.1; have := h1.2; omega
          have hle := le_sumMo m.mo m.T (fun t ht => (ok.mo t ht).1) t.toNat hk
          refine ⟨ok.bN, ok.T1, ok.T8, ok.G1, ok.G4, ok.H1, ok.H4, fun k hk' => ?_, ok.pc, ok.l20, ok.ld, ok.tm⟩
          have := ok.mo k hk'
          have := h2.1
          have := ok.mo t.toNat hk
          simp only [Mk.setMo]
          split <;> omega
      · simp [h1, h2] at h
    · simp [h1] at h
  · exact ok

theorem drawM_ok {m : Mk} {N : Int} (ok : m.Ok N) (t x : Int) : (drawM m t x).Ok N := by
  unfold drawM
  split
  · rename_i h
    unfold drawE at h
    by_cases h1 : okI m.T t
    · by_cases h2 : okN x 1000000000000
      · by_cases h3 : m.mo t.toNat < x
        · simp [h1, h2, h3] at h
        · have hk : t.toNat < m.T := by have := h1.1; have := h1.2; omega
          refine ⟨ok.bN, ok.T1, ok.T8, ok.G1, ok.G4, ok.H1, ok.H4, fun k hk' => ?_, ok.pc, ok.l20, ok.ld, ok.tm⟩
          have := ok.mo k hk'
          have := h2.1
          have := ok.mo t.toNat hk
          simp only [Mk.setMo]
          split <;> omega
      · simp [h1, h2] at h
    · simp [h1] at h
  · exact ok

theorem bringM_ok {m : Mk} {N : Int} (ok : m.Ok N) (bN : N + 200000 ≤ 1000000000000) (t h g n : Int) : (bringM m t h g n).Ok (N + 200000) := by
  unfold bringM
  split
  · rename_i he
    unfold bringE at he
    by_cases h1 : lotsE m t h g n = 0
    · obtain ⟨k1, k2, k3, k4⟩ := lotsE_zero h1
      have b := ok.pc t.toNat h.toNat g.toNat (by have := k1.1; have := k1.2; omega) (by have := k2.1; have := k2.2; omega) (by have := k3.1; have := k3.2; omega)
      have := k4.1
      have := k4.2
      exact setPc_ok ok (by omega) bN _ _ _ _ (by omega)
    · simp [h1] at he
  · exact ok_mono ok (by omega) bN

theorem takeM_ok {m : Mk} {N : Int} (ok : m.Ok N) (t h g n : Int) : (takeM m t h g n).Ok N := by
  unfold takeM
  split
  · rename_i he
    unfold takeE at he
    by_cases h1 : lotsE m t h g n = 0
    · obtain ⟨k1, k2, k3, k4⟩ := lotsE_zero h1
      have b := ok.pc t.toNat h.toNat g.toNat (by have := k1.1; have := k1.2; omega) (by have := k2.1; have := k2.2; omega) (by have := k3.1; have := k3.2; omega)
      have := k4.1
      by_cases h2 : m.pc t.toNat h.toNat g.toNat < n
      · simp [h1, h2] at he
      · exact setPc_ok ok (Int.le_refl _) ok.bN _ _ _ _ (by omega)
    · simp [h1] at he
  · exact ok

theorem shipM_ok {m : Mk} {N : Int} (ok : m.Ok N) (t f o g n : Int) : (shipM m t f o g n).Ok N := by
  unfold shipM
  split
  · rename_i he
    by_cases hb : shipGood m t f o g n
    · rw [shipE_good hb] at he
      obtain ⟨h1, h2, h3, h4⟩ := hb
      obtain ⟨_, k2, k3, k4⟩ := lotsE_zero h4
      have b := ok.pc t.toNat f.toNat g.toNat (by have := h1.1; have := h1.2; omega) (by have := k2.1; have := k2.2; omega) (by have := k3.1; have := k3.2; omega)
      by_cases h5 : m.pc t.toNat f.toNat g.toNat < n
      · simp [h5] at he
      · by_cases h6 : 20 ≤ m.ld.length
        · simp [h5, h6] at he
        · have k := setPc_ok ok (Int.le_refl _) ok.bN t.toNat f.toNat g.toNat (m.pc t.toNat f.toNat g.toNat - n) (by have := k4.1; omega)
          refine ⟨k.bN, k.T1, k.T8, k.G1, k.G4, k.H1, k.H4, k.mo, k.pc, by simp; omega, fun l hl => ?_, k.tm⟩
          simp only [List.mem_append, List.mem_singleton] at hl
          rcases hl with hl | rfl
          · exact ok.ld l hl
          · have hf : 0 ≤ far f o ∧ far f o ≤ 4 := by have := ok.H4; have := k2.1; have := k2.2; have := h2.1; have := h2.2; unfold far; split <;> omega
            have := ok.tm
            exact ⟨h1, h2, k3, k4, by simp only []; omega, by simp only []; omega⟩
    · exfalso
      unfold shipGood at hb
      unfold shipE at he
      by_cases h1 : okI m.T t <;> by_cases h2 : okI m.H o <;> by_cases h3 : f = o <;> by_cases h4 : okI m.H f <;> by_cases h5 : okI m.G g <;> by_cases h6 : okN n 10000 <;> simp_all [lotsE]
  · exact ok

theorem tickM_ok {m : Mk} {N : Int} (ok : m.Ok N) (bN : N + 200000 ≤ 1000000000000) : (tickM m).Ok (N + 200000) := by
  unfold tickM
  split
  · rename_i he
    unfold tickE at he
    by_cases hT : 1000000000 ≤ m.tm
    · simp [hT] at he
    · obtain ⟨s1, s2, s3, s4, s5, s6⟩ := landM_same m (m.tm + 1) m.ld
      have hp := landM_pc m N (m.tm + 1) m.ld (fun l hl => by have := (ok.ld l hl).2.2.2.1; omega) ok.pc
      have l20 := ok.l20
      have := ok.tm
      refine ⟨bN, by rw [s1]; exact ok.T1, by rw [s1]; exact ok.T8, by rw [s2]; exact ok.G1, by rw [s2]; exact ok.G4, by rw [s3]; exact ok.H1, by rw [s3]; exact ok.H4, fun t ht => by simp only [] at ht ⊢; rw [s4]; exact ok.mo t (by rw [← s1]; exact ht),
        fun t h g ht hh hg => ?_, Nat.le_trans (stay_length _ _) l20, fun l hl => ?_, by simp only []; omega⟩
      · simp only [] at ht hh hg ⊢
        have := hp t h g (by rw [← s1]; exact ht) (by rw [← s3]; exact hh) (by rw [← s2]; exact hg)
        omega
      · have := ok.ld l (List.mem_filter.1 hl).1
        simp only []
        rw [s1, s2, s3]
        exact this
  · exact ok_mono ok (by omega) bN

end Go.Proofs.Ytcbfmolebomkdaa
