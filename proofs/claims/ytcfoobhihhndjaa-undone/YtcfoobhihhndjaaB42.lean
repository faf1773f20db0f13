/- What always holds of the orders that wait: their order, their numbers, how they are done, the best prices. -/
import Derived.Test.YtcfoobhihhndjaaB40
namespace Go.Proofs.Ytcfoobhihhndjaa

section
open Go.RowKit Go.Sort

def Ahd (s : Nat) (a b : Od) : Prop := aheadB s a b = true

theorem ahd_iff (s : Nat) (a b : Od) : Ahd s a b ↔ ((s = 0 ∧ (b.p < a.p ∨ a.p = b.p ∧ a.id < b.id)) ∨ (s ≠ 0 ∧ (a.p < b.p ∨ a.p = b.p ∧ a.id < b.id))) := by
  unfold Ahd aheadB
  by_cases e : s = 0 <;> simp [e]
theorem ahd_trans {s : Nat} {a b c : Od} (h : Ahd s a b) (k : Ahd s b c) : Ahd s a c := by
  rw [ahd_iff] at h k ⊢
  omega
theorem ahd_asymm {s : Nat} {a b : Od} (h : Ahd s a b) : ¬ Ahd s b a := by
  intro k
  rw [ahd_iff] at h k
  omega
theorem ahd_total (s : Nat) {a b : Od} (h : a.id ≠ b.id) : Ahd s a b ∨ Ahd s b a := by
  rw [ahd_iff, ahd_iff]
  omega
theorem ahd_id {s : Nat} {a b : Od} (h : Ahd s a b) : ¬ (a.p = b.p ∧ a.id = b.id) := by
  rw [ahd_iff] at h
  omega

theorem slot_spec (ah : Nat → Bool) : ∀ n, (slot ah n = 0 ∨ ∃ j, slot ah n = j + 1 ∧ ah j = false) ∧ ∀ j, slot ah n ≤ j → j < n → ah j = true
  | 0 => ⟨.inl rfl, fun j _ h => by omega⟩
  | k + 1 => by
    unfold slot
    by_cases e : ah k = true
    · rw [if_pos e]
      obtain ⟨h1, h2⟩ := slot_spec ah k
      exact ⟨h1, fun j hj hn => if q : j = k then by rw [q]; exact e else h2 j hj (by omega)⟩
    · rw [if_neg e]
      exact ⟨.inr ⟨k, rfl, by simpa using e⟩, fun j hj hn => by omega⟩

theorem slot_eq (ah : Nat → Bool) {i n : Nat} (hi : i ≤ n) (h1 : ∀ j, j < i → ah j = false) (h2 : ∀ j, i ≤ j → j < n → ah j = true) : slot ah n = i := by
  obtain ⟨a, b⟩ := slot_spec ah n
  have le := slot_le ah n
  rcases Nat.lt_trichotomy (slot ah n) i with q | q | q
  · have := b _ (Nat.le_refl _) (by omega)
    rw [h1 _ q] at this
    cases this
  · exact q
  · rcases a with a | ⟨j, a1, a2⟩
    · omega
    · rw [h2 j (by omega) (by omega)] at a2
      cases a2

theorem put_sorted {s : Nat} {l : List Od} (h : l.Pairwise (Ahd s)) {o : Od} (hid : ∀ z ∈ l, z.id ≠ o.id) : (putAt l (slot (ahAt l s o) l.length) o).Pairwise (Ahd s) := by
  have le := slot_le (ahAt l s o) l.length
  obtain ⟨a, b⟩ := slot_spec (ahAt l s o) l.length
  generalize slot (ahAt l s o) l.length = k at *
  have h' := h
  rw [← List.take_append_drop k l] at h'
  obtain ⟨p1, p2, p3⟩ := List.pairwise_append.1 h'
  have hd : ∀ z ∈ l.drop k, Ahd s o z := by
    intro z hz
    obtain ⟨i, hi, rfl⟩ := List.mem_iff_getElem.1 hz
    rw [List.length_drop] at hi
    have := b (k + i) (by omega) (by omega)
    unfold ahAt at this
    rw [List.getElem?_eq_getElem (by omega)] at this
    rw [List.getElem_drop]
    exact this
  have ht : ∀ z ∈ l.take k, Ahd s z o := by
    intro z hz
    rcases a with a | ⟨j, a1, a2⟩
    · subst a; simp at hz
    · subst a1
      have hj : j < l.length := by omega
      have q : Ahd s l[j] o := by
        unfold ahAt at a2
        rw [List.getElem?_eq_getElem hj] at a2
        rcases ahd_total s (hid l[j] (List.getElem_mem hj)) with q | q
        · exact q
        · unfold Ahd at q
          simp only [] at a2
          rw [q] at a2
          cases a2
      obtain ⟨i, hi, rfl⟩ := List.mem_iff_getElem.1 hz
      rw [List.length_take] at hi
      rw [List.getElem_take]
      by_cases e : i = j
      · subst e; exact q
      · exact ahd_trans (List.pairwise_iff_getElem.1 h i j (by omega) hj (by omega)) q
  unfold putAt
  refine List.pairwise_append.2 ⟨p1, List.pairwise_cons.2 ⟨hd, p2⟩, fun x hx y hy => ?_⟩
  rcases List.mem_cons.1 hy with rfl | hy
  · exact ht x hx
  · exact p3 x hx y hy

theorem put_again {s : Nat} {l : List Od} (h : l.Pairwise (Ahd s)) {i : Nat} {o : Od} (ho : l[i]? = some o) : putAt (l.eraseIdx i) (slot (ahAt (l.eraseIdx i) s o) (l.eraseIdx i).length) o = l := by
  obtain ⟨hi, ho'⟩ := List.getElem?_eq_some_iff.1 ho
  have hl : (l.eraseIdx i).length = l.length - 1 := List.length_eraseIdx_of_lt hi
  have e : slot (ahAt (l.eraseIdx i) s o) (l.eraseIdx i).length = i := by
    refine slot_eq _ (by omega) (fun j hj => ?_) (fun j hj hn => ?_)
    · unfold ahAt
      rw [List.getElem?_eraseIdx_of_lt hj, List.getElem?_eq_getElem (by omega)]
      have := List.pairwise_iff_getElem.1 h j i (by omega) hi hj
      rw [ho'] at this
      have := ahd_asymm this
      unfold Ahd at this
      simpa using this
    · unfold ahAt
      rw [List.getElem?_eraseIdx_of_ge hj, List.getElem?_eq_getElem (by omega)]
      have := List.pairwise_iff_getElem.1 h i (j + 1) hi (by omega) (by omega)
      rw [ho'] at this
      exact this
  rw [e]
  unfold putAt
  rw [List.eraseIdx_eq_take_drop_succ]
  have t1 : (l.take i ++ l.drop (i + 1)).take i = l.take i := by
    rw [List.take_append_of_le_length (by simp; omega), List.take_take, Nat.min_self]
  have t2 : (l.take i ++ l.drop (i + 1)).drop i = l.drop (i + 1) := by
    rw [List.drop_append_of_le_length (by simp; omega)]
    simp
  rw [t1, t2, ← ho', List.getElem_cons_drop, List.take_append_drop]

/-- an order, its pieces aside -/
def Od.key (o : Od) : Od := { o with q := 0 }
theorem ahd_key (s : Nat) (a b : Od) : Ahd s a.key b.key ↔ Ahd s a b := by rw [ahd_iff, ahd_iff]; rfl
theorem key_q (o : Od) (n : Int) : ({ o with q := n } : Od).key = o.key := rfl

/-- how many have a number -/
def cntI (n : Int) : List Od → Int
  | [] => 0
  | o :: r => (if o.id = n then 1 else 0) + cntI n r
theorem cntI_app (n : Int) : ∀ a b, cntI n (a ++ b) = cntI n a + cntI n b
  | [], b => by simp [cntI]
  | o :: r, b => by simp only [List.cons_append, cntI, cntI_app n r b]; omega
theorem adds_cnt (n : Int) : Adds (cntI n) := ⟨rfl, cntI_app n⟩
theorem cntI_nn (n : Int) : ∀ l, 0 ≤ cntI n l
  | [] => by simp [cntI]
  | o :: r => by have := cntI_nn n r; simp only [cntI]; split <;> omega
theorem cntI_sub (n : Int) {a b : List Od} (h : a.Sublist b) : cntI n a ≤ cntI n b := by
  induction h with
  | slnil => exact Int.le_refl _
  | cons x _ ih => simp only [cntI]; split <;> omega
  | cons_cons x _ ih => simp only [cntI]; omega
theorem cntI_mem {n : Int} {l : List Od} {o : Od} (h : o ∈ l) (e : o.id = n) : 1 ≤ cntI n l := by
  induction l with
  | nil => cases h
  | cons x r ih =>
    have := cntI_nn n r
    rcases List.mem_cons.1 h with rfl | h
    · simp only [cntI, e, if_true]; omega
    · have := ih h; simp only [cntI]; split <;> omega
theorem cntI_zero {n : Int} {l : List Od} (h : ∀ o ∈ l, o.id ≠ n) : cntI n l = 0 := by
  induction l with
  | nil => rfl
  | cons x r ih =>
    simp only [cntI, if_neg (h x (List.mem_cons_self ..)), ih fun o ho => h o (List.mem_cons_of_mem _ ho)]; omega
theorem cntI_key (n : Int) : ∀ l : List Od, cntI n (l.map Od.key) = cntI n l
  | [] => rfl
  | o :: r => by simp only [List.map_cons, cntI, cntI_key n r]; rfl
theorem cntI_perm {n : Int} {a b : List Od} (h : a.Perm b) : cntI n a = cntI n b := by
  induction h with
  | nil => rfl
  | cons x _ ih => simp only [cntI, ih]
  | swap x y l => simp only [cntI]; omega
  | trans _ _ h k => exact h.trans k
theorem pair_of_cnt {l : List Od} (h : ∀ n, cntI n l ≤ 1) : l.Pairwise fun a b => a.id ≠ b.id := by
  induction l with
  | nil => exact List.Pairwise.nil
  | cons x r ih =>
    refine List.pairwise_cons.2 ⟨fun b hb e => ?_, ih fun n => ?_⟩
    · have h1 := h x.id
      have h2 := cntI_mem hb e.symm
      simp only [cntI, if_true] at h1
      omega
    · have h1 := h n
      simp only [cntI] at h1
      split at h1 <;> omega

/-- orders that wait, by hall, good and side (their keys) -/
structure Jk (H G : Nat) (B : Nat → Nat → Nat → List Od) : Prop where
  how : ∀ h g s o, h < H → g < G → s < 2 → o ∈ B h g s → o.w = 0 ∨ o.w = 3
  ids : ∀ n, cntI n (upH G B H) ≤ 1
  srt : ∀ h g s, h < H → g < G → s < 2 → (B h g s).Pairwise (Ahd s)
  spr : ∀ h g a b, h < H → g < G → a ∈ B h g 0 → b ∈ B h g 1 → a.p < b.p

def setB (B : Nat → Nat → Nat → List Od) (h g s : Nat) (l : List Od) : Nat → Nat → Nat → List Od := fun a b c => if a = h ∧ b = g ∧ c = s then l else B a b c

theorem Jk.sub {H G : Nat} {B : Nat → Nat → Nat → List Od} (J : Jk H G B) {h g s : Nat} (hh : h < H) (hg : g < G) (hs : s < 2) {l : List Od} (hl : l.Sublist (B h g s)) : Jk H G (setB B h g s l) := by
  have mem : ∀ a b c o, o ∈ setB B h g s l a b c → o ∈ B a b c := by
    intro a b c o ho
    unfold setB at ho
    split at ho
    · rename_i e; obtain ⟨rfl, rfl, rfl⟩ := e; exact hl.subset ho
    · exact ho
  refine ⟨fun a b c o h1 h2 h3 h4 => J.how a b c o h1 h2 h3 (mem _ _ _ _ h4), fun n => ?_, fun a b c h1 h2 h3 => ?_, fun a b x y h1 h2 h3 h4 => J.spr a b x y h1 h2 (mem _ _ _ _ h3) (mem _ _ _ _ h4)⟩
  · have := adds_upH (adds_cnt n) G B h g s hg hs l H
    rw [if_pos hh] at this
    have h1 := J.ids n
    have h2 := cntI_sub n hl
    show cntI n (upH G (fun a b c => if a = h ∧ b = g ∧ c = s then l else B a b c) H) ≤ 1
    omega
  · unfold setB
    split
    · rename_i e; obtain ⟨rfl, rfl, rfl⟩ := e; exact (J.srt a b c h1 h2 h3).sublist hl
    · exact J.srt a b c h1 h2 h3

theorem Jk.put {H G : Nat} {B : Nat → Nat → Nat → List Od} (J : Jk H G B) {h g s : Nat} (hh : h < H) (hg : g < G) (hs : s < 2) {o : Od} (hw : o.w = 0 ∨ o.w = 3) (hid : ∀ z ∈ upH G B H, z.id ≠ o.id)
    (hf : ∀ z ∈ B h g (otherS s), if s = 0 then o.p < z.p else z.p < o.p) : Jk H G (setB B h g s (putAt (B h g s) (slot (ahAt (B h g s) s o) (B h g s).length) o)) := by
  have mem : ∀ a b c x, x ∈ setB B h g s (putAt (B h g s) (slot (ahAt (B h g s) s o) (B h g s).length) o) a b c → x ∈ B a b c ∨ (a = h ∧ b = g ∧ c = s ∧ x = o) := by
    intro a b c x hx
    unfold setB at hx
    split at hx
    · rename_i e
      obtain ⟨rfl, rfl, rfl⟩ := e
      rcases mem_put hx with rfl | f
      · exact .inr ⟨rfl, rfl, rfl, rfl⟩
      · exact .inl f
    · exact .inl hx
  refine ⟨fun a b c x h1 h2 h3 h4 => ?_, fun n => ?_, fun a b c h1 h2 h3 => ?_, fun a b x y h1 h2 h3 h4 => ?_⟩
  · rcases mem _ _ _ _ h4 with q | ⟨_, _, _, rfl⟩
    · exact J.how a b c x h1 h2 h3 q
    · exact hw
  · have := adds_upH (adds_cnt n) G B h g s hg hs (putAt (B h g s) (slot (ahAt (B h g s) s o) (B h g s).length) o) H
    rw [if_pos hh, (adds_cnt n).put] at this
    show cntI n (upH G (fun a b c => if a = h ∧ b = g ∧ c = s then putAt (B h g s) (slot (ahAt (B h g s) s o) (B h g s).length) o else B a b c) H) ≤ 1
    have h1 := J.ids n
    by_cases e : o.id = n
    · have : cntI n (upH G B H) = 0 := cntI_zero fun z hz => by rw [← e]; exact hid z hz
      simp only [cntI, e, if_true] at *
      omega
    · simp only [cntI, e, if_false] at *
      omega
  · unfold setB
    split
    · rename_i e
      obtain ⟨rfl, rfl, rfl⟩ := e
      exact put_sorted (J.srt a b c h1 h2 h3) fun z hz => hid z (mem_upH.2 ⟨a, b, c, h1, h2, h3, hz⟩)
    · exact J.srt a b c h1 h2 h3
  · rcases mem _ _ _ _ h3 with q | ⟨e1, e2, e3, rfl⟩
    · rcases mem _ _ _ _ h4 with q' | ⟨e1, e2, e3, rfl⟩
      · exact J.spr a b x y h1 h2 q q'
      · subst e1 e2
        have := hf x (by rw [← e3]; exact q)
        rw [if_neg (by omega)] at this
        exact this
    · rcases mem _ _ _ _ h4 with q' | ⟨_, _, e4, _⟩
      · subst e1 e2
        have := hf y (by rw [← e3]; exact q')
        rw [if_pos (by omega)] at this
        exact this
      · omega
end

/- What always holds of the orders that wait, through every call. -/
section
open Go.RowKit Go.Sort

/-- what an order leaves of those on the other side, and what is left of it -/
def matchL : List Od → Od → List Od × Int
  | [], o => ([], o.q)
  | z :: r, o =>
    if o.q ≤ 0 then (z :: r, o.q)
    else if pfits o z = false then (z :: r, o.q)
    else if z.t = o.t then matchL r o
    else if z.q - min o.q z.q = 0 then matchL r { o with q := o.q - min o.q z.q }
    else ({ z with q := z.q - min o.q z.q } :: r, o.q - min o.q z.q)

theorem one_bkJ (m : Mt) (h g s : Nat) (hs : s < 2) (o z : Od) (n p q : Int) : (noteM (oneM m h g s o z n) h g p q).bk = (m.setBk h g s ((m.bk h g s).set 0 { z with q := z.q - n })).bk := by
  unfold oneM
  rcases s with _ | _ | s
  · rw [if_neg (by omega)]; rfl
  · rw [if_pos rfl]; rfl
  · omega

theorem setBk_bk {m m' : Mt} (h : m'.bk = m.bk) (a b c : Nat) (l : List Od) : (m'.setBk a b c l).bk = (m.setBk a b c l).bk := by
  unfold Mt.setBk
  simp only [h]
theorem setBk_twice (m : Mt) (a b c : Nat) (k l : List Od) : ((m.setBk a b c k).setBk a b c l).bk = (m.setBk a b c l).bk := by
  unfold Mt.setBk
  funext x y z
  simp only []
  split <;> rfl
theorem setBk_sameJ (m : Mt) (a b c : Nat) : (m.setBk a b c (m.bk a b c)).bk = m.bk := by
  unfold Mt.setBk
  funext x y z
  simp only []
  split
  · rename_i e; obtain ⟨rfl, rfl, rfl⟩ := e; rfl
  · rfl
theorem setBk_at (m : Mt) (a b c : Nat) (l : List Od) : (m.setBk a b c l).bk a b c = l := by simp [Mt.setBk]
theorem release_bk (m : Mt) (t h g s : Nat) (o : Od) : (releaseM m t h g s o).bk = m.bk := by unfold releaseM; split <;> rfl

theorem matchM_bk (h g s : Nat) (hs : s < 2) : ∀ (l : List Od) (m : Mt) (o : Od), m.bk h g s = l → (matchM h g s l m o).1.bk = (m.setBk h g s (matchL l o).1).bk ∧ (matchM h g s l m o).2.1 = { o with q := (matchL l o).2 }
  | [], m, o, hb => by
    unfold matchM matchL
    refine ⟨?_, rfl⟩
    rw [← hb, setBk_sameJ]
  | z :: r, m, o, hb => by
    unfold matchM matchL
    by_cases h1 : o.q ≤ 0
    · rw [if_pos h1, if_pos h1]
      exact ⟨by rw [← hb, setBk_sameJ], rfl⟩
    · rw [if_neg h1, if_neg h1]
      by_cases h2 : pfits o z = false
      · rw [if_pos h2, if_pos h2]
        exact ⟨by rw [← hb, setBk_sameJ], rfl⟩
      · rw [if_neg h2, if_neg h2]
        by_cases h3 : z.t = o.t
        · rw [if_pos h3, if_pos h3]
          obtain ⟨i1, i2⟩ := matchM_bk h g s hs r (releaseM (m.setBk h g s r) z.t.toNat h g s z) o (by rw [release_bk, setBk_at])
          exact ⟨by rw [i1, setBk_bk (release_bk _ _ _ _ _ _), setBk_twice], i2⟩
        · rw [if_neg h3, if_neg h3]
          by_cases h4 : z.q - min o.q z.q = 0
          · rw [if_pos h4, if_pos h4]
            obtain ⟨i1, i2⟩ := matchM_bk h g s hs r ((noteM (oneM m h g s o z (min o.q z.q)) h g z.p (min o.q z.q)).setBk h g s r) { o with q := o.q - min o.q z.q } (setBk_at _ _ _ _ _)
            exact ⟨by simp only []; rw [i1, setBk_twice, setBk_bk (one_bkJ m h g s hs o z _ _ _), setBk_twice], i2⟩
          · rw [if_neg h4, if_neg h4]
            refine ⟨?_, rfl⟩
            simp only []
            rw [one_bkJ m h g s hs o z, hb]
            rfl

theorem matchL_keys : ∀ (l : List Od) (o : Od), (matchL l o).1.map Od.key <:+ l.map Od.key
  | [], o => List.suffix_refl _
  | z :: r, o => by
    unfold matchL
    by_cases h1 : o.q ≤ 0
    · rw [if_pos h1]; exact List.suffix_refl _
    · rw [if_neg h1]
      by_cases h2 : pfits o z = false
      · rw [if_pos h2]; exact List.suffix_refl _
      · rw [if_neg h2]
        by_cases h3 : z.t = o.t
        · rw [if_pos h3]
          exact (matchL_keys r o).trans (List.suffix_cons _ _)
        · rw [if_neg h3]
          by_cases h4 : z.q - min o.q z.q = 0
          · rw [if_pos h4]
            exact (matchL_keys r _).trans (List.suffix_cons _ _)
          · rw [if_neg h4]
            exact List.suffix_refl _

theorem matchL_done : ∀ (l : List Od) (o : Od), 0 < (matchL l o).2 → ∀ z r, (matchL l o).1 = z :: r → pfits o z = false
  | [], o, _, z, r, e => by cases e
  | y :: l, o, hp, z, r, e => by
    unfold matchL at hp e
    by_cases h1 : o.q ≤ 0
    · rw [if_pos h1] at hp
      simp only [] at hp
      omega
    · rw [if_neg h1] at hp e
      by_cases h2 : pfits o y = false
      · rw [if_pos h2] at e
        simp only [List.cons.injEq] at e
        rw [← e.1]; exact h2
      · rw [if_neg h2] at hp e
        by_cases h3 : y.t = o.t
        · rw [if_pos h3] at hp e
          exact matchL_done l o hp z r e
        · rw [if_neg h3] at hp e
          by_cases h4 : y.q - min o.q y.q = 0
          · rw [if_pos h4] at hp e
            exact matchL_done l { o with q := o.q - min o.q y.q } hp z r e
          · rw [if_neg h4] at hp
            simp only [] at hp
            omega

def Mt.keys (m : Mt) : Nat → Nat → Nat → List Od := fun h g s => (m.bk h g s).map Od.key
/-- what always holds of the orders that wait -/
def Mt.Jn (m : Mt) : Prop := Jk m.H m.G m.keys

theorem upG_map {α β : Type} (k : α → β) (f : Nat → Nat → List α) : ∀ G, upG (fun a b => (f a b).map k) G = (upG f G).map k
  | 0 => rfl
  | g + 1 => by simp only [upG, two, upG_map k f g, List.map_append]
theorem upH_map {α β : Type} (k : α → β) (G : Nat) (f : Nat → Nat → Nat → List α) : ∀ H, upH G (fun a b c => (f a b c).map k) H = (upH G f H).map k
  | 0 => rfl
  | h + 1 => by simp only [upH, upH_map k G f h, upG_map k, List.map_append]

theorem Mt.Jn.how {m : Mt} (J : m.Jn) {h g s : Nat} (q : at3 m h g s) {o : Od} (ho : o ∈ m.bk h g s) : o.w = 0 ∨ o.w = 3 := Jk.how J h g s o.key q.1 q.2.1 q.2.2 (List.mem_map.2 ⟨o, ho, rfl⟩)
theorem Mt.Jn.ids {m : Mt} (J : m.Jn) (n : Int) : cntI n m.all ≤ 1 := by
  have := Jk.ids J n
  unfold Mt.keys at this
  rw [upH_map, cntI_key] at this
  exact this
theorem Mt.Jn.srt {m : Mt} (J : m.Jn) {h g s : Nat} (q : at3 m h g s) : (m.bk h g s).Pairwise (Ahd s) := by
  have := Jk.srt J h g s q.1 q.2.1 q.2.2
  unfold Mt.keys at this
  rw [List.pairwise_map] at this
  exact this.imp fun {a b} h => (ahd_key s a b).1 h
theorem Mt.Jn.spr {m : Mt} (J : m.Jn) {h g : Nat} (hh : h < m.H) (hg : g < m.G) {a b : Od} (ha : a ∈ m.bk h g 0) (hb : b ∈ m.bk h g 1) : a.p < b.p := Jk.spr J h g a.key b.key hh hg (List.mem_map.2 ⟨a, ha, rfl⟩) (List.mem_map.2 ⟨b, hb, rfl⟩)

theorem Mt.Jn.of {m m' : Mt} (J : m.Jn) (hG : m'.G = m.G) (hH : m'.H = m.H) (hb : m'.bk = m.bk) : m'.Jn := by
  unfold Mt.Jn Mt.keys at *
  rw [hG, hH, hb]; exact J

theorem keys_setBk {m m' : Mt} {h g s : Nat} {l : List Od} (hb : m'.bk = (m.setBk h g s l).bk) : m'.keys = setB m.keys h g s (l.map Od.key) := by
  unfold Mt.keys setB
  rw [hb]
  funext a b c
  simp only [Mt.setBk]
  split <;> rfl

/-- some taken out -/
theorem Mt.Jn.sub {m m' : Mt} (J : m.Jn) (hG : m'.G = m.G) (hH : m'.H = m.H) {h g s : Nat} (q : at3 m h g s) {l : List Od} (hb : m'.bk = (m.setBk h g s l).bk) (hl : (l.map Od.key).Sublist ((m.bk h g s).map Od.key)) : m'.Jn := by
  unfold Mt.Jn
  rw [keys_setBk hb, hG, hH]
  exact Jk.sub J q.1 q.2.1 q.2.2 hl

theorem Mt.Jn.back {m : Mt} (J : m.Jn) {h g s : Nat} (q : at3 m h g s) (i : Nat) (o : Od) : (backM m h g s i o).Jn :=
  J.sub (dims_back m h g s i o).G (dims_back m h g s i o).H q (release_bk _ _ _ _ _ _) ((List.eraseIdx_sublist ..).map _)

theorem Mt.Jn.less {m : Mt} (J : m.Jn) {h g s : Nat} (q : at3 m h g s) {i : Nat} {o : Od} (hb : (m.bk h g s)[i]? = some o) (n : Int) : (lessM m h g s i o n).Jn := by
  have e : (lessM m h g s i o n).bk = (m.setBk h g s ((m.bk h g s).set i { o with q := n })).bk := by
    unfold lessM holdH
    have := setBk_bk (release_bk m o.t.toNat h g s o) h g s ((m.bk h g s).set i { o with q := n })
    split <;> exact this
  refine J.sub (dims_less m h g s i o n).G (dims_less m h g s i o n).H q e ?_
  have k : ((m.bk h g s).set i { o with q := n }).map Od.key = (m.bk h g s).map Od.key := by
    rw [List.map_set]
    obtain ⟨hi, ho⟩ := List.getElem?_eq_some_iff.1 hb
    rw [key_q, ← ho, ← List.getElem_map Od.key (h := by simpa using hi), List.set_getElem_self]
  rw [k]
  exact List.Sublist.refl _

theorem Mt.Jn.again {m : Mt} (J : m.Jn) {h g s : Nat} (q : at3 m h g s) {i : Nat} {o : Od} (hb : (m.bk h g s)[i]? = some o) : againM (backM m h g s i o) h g s o = m := by
  rw [again_eq, put_again (J.srt q) hb]
  have := setBk_sameJ m h g s
  unfold Mt.setBk at *
  cases m
  simp only [Mt.mk.injEq, true_and, and_true] at *
  exact this

theorem ahAt_key (l : List Od) (s : Nat) (o : Od) : ahAt (l.map Od.key) s o.key = ahAt l s o := by
  funext j
  unfold ahAt
  rw [List.getElem?_map]
  cases l[j]? <;> rfl
theorem put_map (l : List Od) (i : Nat) (o : Od) : (putAt l i o).map Od.key = putAt (l.map Od.key) i o.key := by simp [putAt]

/-- none that is left fits -/
theorem left_fits {s : Nat} (s2 : s < 2) {o : Od} (es : o.s = s) {l : List Od} (hs : l.Pairwise (Ahd (otherS s))) (hf : ∀ z r, l = z :: r → pfits o z = false) : ∀ z ∈ l, if s = 0 then o.p < z.p else z.p < o.p := by
  intro z hz
  rcases l with _ | ⟨y, r⟩
  · cases hz
  · have h1 := hf y r rfl
    unfold pfits at h1
    have h2 : z = y ∨ Ahd (otherS s) y z := (List.mem_cons.1 hz).imp id fun h => (List.pairwise_cons.1 hs).1 z h
    rw [ahd_iff] at h2
    unfold otherS at h2
    rcases s with _ | _ | s
    · rw [if_pos (by omega)] at h1
      simp only [decide_eq_false_iff_not] at h1
      rw [if_pos rfl]
      rcases h2 with rfl | h2
      · omega
      · simp at h2; omega
    · rw [if_neg (by omega)] at h1
      simp only [decide_eq_false_iff_not] at h1
      rw [if_neg (by omega)]
      rcases h2 with rfl | h2
      · omega
      · simp at h2; omega
    · omega

theorem Mt.Jn.place {m : Mt} {N : Int} (J : m.Jn) (I : m.Inv N) (o : Od) : (placeM m o).Jn := by
  unfold placeM
  by_cases hE : placeE m o = 0
  · rw [if_pos hE]
    have hr := (placeE_zero hE).1
    unfold refE1 at hr
    have k1 : okI m.T o.t := by
      by_cases q : okI m.T o.t
      · exact q
      · rw [if_pos q] at hr; omega
    rw [if_neg (fun f => f k1)] at hr
    have k2 : okI m.H o.h := by
      by_cases q : okI m.H o.h
      · exact q
      · rw [if_pos q] at hr; omega
    rw [if_neg (fun f => f k2)] at hr
    have k3 : okI m.G o.g := by
      by_cases q : okI m.G o.g
      · exact q
      · rw [if_pos q] at hr; omega
    rw [if_neg (fun f => f k3)] at hr
    have k4 : o.fit = true := by
      by_cases q : o.fit = false
      · rw [if_pos q] at hr; omega
      · simpa using q
    obtain ⟨b1, b2, _, _⟩ := fit_bd k4
    obtain ⟨h, eh⟩ := Int.eq_ofNat_of_zero_le k2.1
    obtain ⟨g, eg⟩ := Int.eq_ofNat_of_zero_le k3.1
    obtain ⟨s, es⟩ := Int.eq_ofNat_of_zero_le b1.1
    have hh : h < m.H := by have := k2.2; omega
    have hg : g < m.G := by have := k3.2; omega
    have hs : s < 2 := by have := b1.2; omega
    have q : at3 m h g s := ⟨hh, hg, hs⟩
    have hs' : otherS s < 2 := by unfold otherS; split <;> omega
    have hne : s ≠ otherS s := by unfold otherS; split <;> omega
    have q' : at3 m h g (otherS s) := ⟨hh, hg, hs'⟩
    unfold placed
    rw [show o.h.toNat = h by omega, show o.g.toNat = g by omega, show o.s.toNat = s by omega]
    have hb0 : (holdM { m with nu := m.nu + 1 } { o with id := m.nu + 1 }).bk = m.bk := bk_hold _ _
    obtain ⟨e1, e2⟩ := matchM_bk h g (otherS s) hs' (m.bk h g (otherS s)) (holdM { m with nu := m.nu + 1 } { o with id := m.nu + 1 }) { o with id := m.nu + 1 } (by rw [hb0])
    rw [setBk_bk hb0] at e1
    have D0 : Dims m (holdM { m with nu := m.nu + 1 } { o with id := m.nu + 1 }) := Dims.trans (b := { m with nu := m.nu + 1 }) ⟨rfl, rfl, rfl, rfl⟩ (same_hold _ _).dims
    have D1 := D0.trans (matchM_same (h := h) (g := g) (s := otherS s) (m.bk h g (otherS s)) (holdM { m with nu := m.nu + 1 } { o with id := m.nu + 1 }) { o with id := m.nu + 1 }).dims
    have hL := matchL_keys (m.bk h g (otherS s)) { o with id := m.nu + 1 }
    have hD := matchL_done (m.bk h g (otherS s)) { o with id := m.nu + 1 }
    generalize matchL (m.bk h g (otherS s)) { o with id := m.nu + 1 } = ml at *
    generalize matchM h g (otherS s) (m.bk h g (otherS s)) (holdM { m with nu := m.nu + 1 } { o with id := m.nu + 1 }) { o with id := m.nu + 1 } = mm at *
    have J1 : mm.1.Jn := J.sub D1.G D1.H q' e1 hL.sublist
    rw [e2]
    unfold settleM
    split
    · rename_i hw
      show (waitM mm.1 { id := m.nu + 1, t := o.t, h := o.h, g := o.g, s := o.s, p := o.p, q := ml.2, w := o.w }).Jn
      have hw1 : 0 < ml.2 := hw.1
      have hw2 : o.w = 0 ∨ o.w = 3 := hw.2
      generalize hx : ({ id := m.nu + 1, t := o.t, h := o.h, g := o.g, s := o.s, p := o.p, q := ml.2, w := o.w } : Od) = x
      have xi : x.id = m.nu + 1 := by rw [← hx]
      have xh : x.h.toNat = h := by rw [← hx]; show o.h.toNat = h; omega
      have xg : x.g.toNat = g := by rw [← hx]; show o.g.toNat = g; omega
      have xs : x.s.toNat = s := by rw [← hx]; show o.s.toNat = s; omega
      have xp : x.p = o.p := by rw [← hx]
      have xw : x.w = o.w := by rw [← hx]
      unfold waitM
      rw [xh, xg, xs]
      have e3 : mm.1.bk h g s = m.bk h g s := by rw [e1]; simp [Mt.setBk, hne]
      have e4 : mm.1.bk h g (otherS s) = ml.1 := by rw [e1]; simp [Mt.setBk]
      unfold Mt.Jn
      rw [keys_setBk (m := mm.1) rfl, put_map, ← ahAt_key, show (mm.1.bk h g s).map Od.key = mm.1.keys h g s from rfl, show (mm.1.bk h g s).length = (mm.1.keys h g s).length by simp [Mt.keys]]
      refine Jk.put (s := s) J1 (by show h < mm.1.H; rw [D1.H]; exact hh) (by show g < mm.1.G; rw [D1.G]; exact hg) hs (o := x.key) (by show x.w = 0 ∨ x.w = 3; rw [xw]; exact hw2) (fun z hz => ?_) (fun z hz => ?_)
      · obtain ⟨a, b, c, h1, h2, h3, h4⟩ := mem_upH.1 hz
        have h1' : a < m.H := by rw [← D1.H]; exact h1
        have h2' : b < m.G := by rw [← D1.G]; exact h2
        have h5 : z ∈ m.keys a b c := by
          rw [keys_setBk e1] at h4
          unfold setB at h4
          split at h4
          · rename_i e; obtain ⟨rfl, rfl, rfl⟩ := e
            exact hL.subset h4
          · exact h4
        obtain ⟨y, hy, rfl⟩ := List.mem_map.1 h5
        have := (I.od a b c y h1' h2' h3 hy).id
        show y.id ≠ x.id
        omega
      · have h5 : z ∈ ml.1.map Od.key := by
          have : z ∈ (mm.1.bk h g (otherS s)).map Od.key := hz
          rw [e4] at this; exact this
        obtain ⟨y, hy, rfl⟩ := List.mem_map.1 h5
        show if s = 0 then x.p < y.p else y.p < x.p
        rw [xp]
        refine left_fits (l := ml.1) hs es ?_ (fun z r e => hD hw1 z r e) y hy
        have := J1.srt (h := h) (g := g) (s := otherS s) ⟨by rw [D1.H]; exact hh, by rw [D1.G]; exact hg, hs'⟩
        rw [e4] at this
        exact this
    · exact J1.of (dims_release _ _ _ _ _ _).G (dims_release _ _ _ _ _ _).H (release_bk _ _ _ _ _ _)
  · rw [if_neg hE]; exact J

theorem Moves.jn {m m' : Mt} {N : Int} (I : m.Inv N) (J : m.Jn) (h : Moves m m') : m'.Jn := by
  have D := h.dims
  rcases h with rfl | ⟨t, n, rfl⟩ | ⟨t, n, rfl⟩ | ⟨t, h, g, n, rfl⟩ | ⟨t, h, g, n, rfl⟩ | ⟨t, f, o, g, n, rfl⟩ | rfl | ⟨t, id, c, C⟩ | ⟨t, id, p, q, n, ts, c, C⟩ | ⟨o, rfl⟩
  · exact J
  · exact J.of D.G D.H (by unfold payM; split <;> rfl)
  · exact J.of D.G D.H (by unfold drawM; split <;> rfl)
  · exact J.of D.G D.H (by unfold bringM; split <;> rfl)
  · exact J.of D.G D.H (by unfold takeM; split <;> rfl)
  · exact J.of D.G D.H (by unfold shipM; split <;> rfl)
  · refine J.of D.G D.H ?_
    unfold tickM
    split
    · exact (landM_rest _ _ _).2.1
    · rfl
  · rcases C with ⟨_, _, rfl⟩ | ⟨_, _, _, rfl⟩ | ⟨_, h, g, s, i, o, S, _, rfl⟩
    · exact J
    · exact J
    · exact J.back S.q i o
  · rcases C with ⟨_, _, _, _, rfl⟩ | ⟨_, _, _, _, _, rfl⟩ | ⟨_, h, g, s, i, o, S, (⟨_, _, _, _, rfl⟩ | ⟨hf, hA, _, _, _, rfl⟩ | ⟨hf, hA, hE, _, _, _, rfl⟩ | ⟨hf, hA, hE, _, _, _, rfl⟩)⟩
    · exact J
    · exact J
    · exact J
    · exact J.less S.q S.ho q
    · exact (J.back S.q i o).place (I.back S.q S.ho) _
    · rw [J.again S.q S.ho]; exact J
  · exact J.place I o
end

end Go.Proofs.Ytcfoobhihhndjaa
