/- Apart: counted. -/
import Derived.Test.YtcfoobhihhndjaaAl
namespace Go.Proofs.Ytcfoobhihhndjaa

section
open Go.RowKit Go.Sort

/-- an order of a book's side -/
def mtB (h g s : Nat) (o : Od) : Bool := decide (o.h = h) && decide (o.g = g) && decide (o.s = s)

theorem lvSubL_bd {s : Nat} {os dn : List Od} {gs : List Lv} (ok : LvOk s os gs) (ho : ∀ o ∈ os, 1 ≤ o.q ∧ o.q ≤ 10000) (hd : ∀ o ∈ dn, 1 ≤ o.q ∧ o.q ≤ 10000) (lo : os.length ≤ 60) (ld : dn.length ≤ 60) : ∀ l ∈ lvSubL gs dn, (-1000000 ≤ l.q ∧ l.q ≤ 1000000) ∧ (-1000 ≤ l.n ∧ l.n ≤ 1000) := fun l hl => by
  obtain ⟨x, hx, rfl⟩ := List.mem_map.1 hl
  have h1 := ok.sq x hx
  have h2 := sumQ_bd x.p ho
  have h3 := sumQ_bd x.p hd
  simp only
  omega

set_option maxRecDepth 1000000 in
set_option maxHeartbeats 16000000 in
theorem cnt_l2 {W : World} {lb oc vc h g s : Nat} {gs : List Lv} {os dn l : List Od} {va oa : Option Addr} (ok : LvOk s os gs) (hlen : gs.length ≤ 60) (ho : ∀ o ∈ os, 1 ≤ o.q ∧ o.q ≤ 10000) (lo : os.length ≤ 60) (hd : ∀ o ∈ dn ++ l, 1 ≤ o.q ∧ o.q ≤ 10000) (ld : (dn ++ l.filter (mtB h g s)).length ≤ 60) (hl60 : l.length ≤ 60) (hin : ∀ o ∈ l, mtB h g s o = true → o ∈ os) (hva : 0 < gs.length → va = some ⟨lb, 0, none⟩) (A0 : LvAt W lb (lvSubL gs dn) W)
    (hRow : ∀ i, i < l.length → ∃ b, oa = some ⟨b, 0, none⟩ ∧ b ≠ lb ∧ ∀ i (hi : i < l.length) j u, l[i].cells[j]? = some u → W.cell? ⟨b, i * 8 + j, none⟩ = some u)
    (Q : Exit → Act → World → Prop) (u0 u5 u6 u7 u8 u9 u10 u12 u14 u16 u17 u18 u19 u20 u21 u22 u23 u24 u25 u26 u27 u28 u29 u30 u31 u32 u33 u34 u35 u36 u37 u38 u39 u40 u41 u42 u43 u44 u45 u46 u47 u48 u49 u50 u51 u52 u53 u54 u55 u56 u57 u58 u59 u60 u61 u62 u63 u64 u65 u66 u67 u68 u69 u70 u71 u72 u73 u74 u75 u76 u77 u78 u79 u80 u81 u82 u83 u84 u85 u86 u87 u88 u89 u90 u91 u92 u93 u94 u95 u96 u97 u98 u99 u100 u101 u102 u103 u104 u105 u106 u107 u108 u109 u110 u111 u112 u113 u114 u115 u116 u117 u118 u119 u120 u121 u122 u123 u124 u125 u126 u127 : Value)
    (hE : ∀ (n16 n31 n32 n33 n34 n35 n36 n37 n38 n39 n40 n41 n42 n43 n44 n45 n46 n47 n48 n49 n50 n51 n52 n53 n54 n55 n56 n57 n58 n59 n60 n61 n62 n63 n64 n65 n66 n67 n68 n69 n70 n71 n72 n73 n74 n75 n76 n77 n78 n79 n80 n81 n82 n83 n84 n85 n86 n87 n88 n89 n90 n91 n92 n93 n94 n95 n96 n97 n98 n99 n100 n101 n102 n103 n104 n105 : Value) (W' : World), LvAt W lb (lvSubL gs (dn ++ l.filter (mtB h g s))) W' → Q (.exit 2) ⟨#[u0, .int .i64 h, .int .i64 g, .int .i64 s, .slice va gs.length vc, u5, u6, u7, u8, u9, u10, .int .i64 0, u12, .slice oa l.length oc, u14, .int .i64 l.length, n16, u17, u18, u19, u20, u21, u22, u23, u24, u25, u26, u27, u28, u29, u30, n31, n32, n33, n34, n35, n36, n37, n38, n39, n40, n41, n42, n43, n44, n45, n46, n47, n48, n49, n50, n51, n52, n53, n54, n55, n56, n57, n58, n59, n60, n61, n62, n63, n64, n65, n66, n67, n68, n69, n70, n71, n72, n73, n74, n75, n76, n77, n78, n79, n80, n81, n82, n83, n84, n85, n86, n87, n88, n89, n90, n91, n92, n93, n94, n95, n96, n97, n98, n99, n100, n101, n102, n103, n104, n105, u106, u107, u108, u109, u110, u111, u112, u113, u114, u115, u116, u117, u118, u119, u120, u121, u122, u123, u124, u125, u126, u127], []⟩ W') :
    Code.wp Try.prog (Code.loop (loopAt Try.f24 1)) Q ⟨#[u0, .int .i64 h, .int .i64 g, .int .i64 s, .slice va gs.length vc, u5, u6, u7, u8, u9, u10, .int .i64 0, u12, .slice oa l.length oc, u14, .int .i64 0, u16, u17, u18, u19, u20, u21, u22, u23, u24, u25, u26, u27, u28, u29, u30, u31, u32, u33, u34, u35, u36, u37, u38, u39, u40, u41, u42, u43, u44, u45, u46, u47, u48, u49, u50, u51, u52, u53, u54, u55, u56, u57, u58, u59, u60, u61, u62, u63, u64, u65, u66, u67, u68, u69, u70, u71, u72, u73, u74, u75, u76, u77, u78, u79, u80, u81, u82, u83, u84, u85, u86, u87, u88, u89, u90, u91, u92, u93, u94, u95, u96, u97, u98, u99, u100, u101, u102, u103, u104, u105, u106, u107, u108, u109, u110, u111, u112, u113, u114, u115, u116, u117, u118, u119, u120, u121, u122, u123, u124, u125, u126, u127], []⟩ W := by
  have HE := hide hE
  have HA0 := hide A0
  have HVa := hide hva
  have HRow := hide hRow
  have HOk := hide ok
  have HOs := hide ho
  have HD := hide hd
  have HIn := hide hin
  clear hE A0 hva hRow ok ho hd hin
  conv => arg 2; arg 1; whnf
  dsimp only
  go_loopw [11, 15] (fun a j wr => ∃ k : Nat, k ≤ l.length ∧ a = .int .i64 0 ∧ j = .int .i64 k ∧ LvAt W lb (lvSubL gs (dn ++ (l.take k).filter (mtB h g s))) wr) (fun _ j _ => l.length - (intOf j).toNat)
  case atStart => exact ⟨0, Nat.zero_le _, rfl, rfl, by simpa using HA0.out⟩
  case round =>
    clear HA0
    obtain ⟨k, hk, rfl, rfl, A⟩ := hrel
    by_cases hlk : k < l.length
    · obtain ⟨b, rfl, hbn, hc⟩ := HRow.out k hlk
      have y2 := A.kp.cell (hc k hlk 2 _ rfl) hbn
      have y3 := A.kp.cell (hc k hlk 3 _ rfl) hbn
      have y4 := A.kp.cell (hc k hlk 4 _ rfl) hbn
      have y5 := A.kp.cell (hc k hlk 5 _ rfl) hbn
      have y6 := A.kp.cell (hc k hlk 6 _ rfl) hbn
      have hlk' : (k : Int) < (l.length : Int) := by omega
      have hkl : k < l.length := hlk
      have hqb := HD.out l[k] (List.mem_append_right _ (List.getElem_mem hlk))
      have HMt := hide (HIn.out l[k] (List.getElem_mem hlk))
      have HNx := hide (show (l.take (k + 1)).filter (mtB h g s) = (l.take k).filter (mtB h g s) ++ if mtB h g s l[k] = true then [l[k]] else [] by
        rw [List.take_add_one, List.getElem?_eq_getElem hlk, List.filter_append]
        congr 1
        by_cases e : mtB h g s l[k] = true
        · rw [if_pos e]; simp [e]
        · rw [if_neg e]; simp [e])
      have hld : (dn ++ (l.take k).filter (mtB h g s)).length ≤ 60 := by
        have h1 : ((l.take k).filter (mtB h g s)).length ≤ (l.filter (mtB h g s)).length := ((List.take_sublist k l).filter _).length_le
        rw [List.length_append] at ld ⊢
        omega
      have HBd := hide (lvSubL_bd HOk.out HOs.out (dn := dn ++ (l.take k).filter (mtB h g s)) (fun o hm => by
        rcases List.mem_append.1 hm with hm | hm
        · exact HD.out o (List.mem_append_left _ hm)
        · exact HD.out o (List.mem_append_right _ (List.mem_of_mem_take (List.mem_filter.1 hm).1))) lo hld)
      have HA := hide A
      clear hc A
      generalize hz : l[k] = z at *
      generalize hdk : dn ++ (l.take k).filter (mtB h g s) = dk at *
      clear hz
      by_cases em : mtB h g s z = true
      · have hN := HNx.out
        rw [if_pos em] at hN
        have HF := hide (show lvSubL gs (dn ++ (l.take (k + 1)).filter (mtB h g s)) = (lvSubL gs dk).map (lvMinus z) by rw [lvSubL_snoc, hN, ← List.append_assoc, hdk])
        have HC := hide (show cntL z.p (lvSubL gs dk) = 1 by
          rw [cntL_sub]
          exact cntL_one HOk.out.pw (HOk.out.ex z (HMt.out em)))
        have e3 : (z.h = h ∧ z.g = g) ∧ z.s = s := by unfold mtB at em; simpa using em
        rw [e3.1.1] at y2
        rw [e3.1.2] at y3
        rw [e3.2] at y4
        have HA' := hide (show LvAt wr lb (lvSubL gs dk) wr from ⟨Kep.refl _ _, HA.out.row⟩)
        have HKp := hide HA.out.kp
        clear hN HNx HMt em e3 HRow HD HIn HOk HOs
        go_wp2
        refine cnt_l3 (lvSubL_len gs dk) (by rw [lvSubL_len]; exact hlen) HBd.out hqb (c := 1) (by omega) (by rw [lvSubL_len]; exact HVa.out) HA'.out hkl y5 y6 hbn _ _ _ _ _ _ _ _ _ _ _ _ _ _ _ _ _ _ _ _ _ _ _ _ _ _ _ _ _ _ _ _ _ _ _ _ _ _ _ _ _ _ _ _ _ _ _ _ _ _ _ _ _ _ _ _ _ _ _ _ _ _ _ _ _ _ _ _ _ _ _ _ _ _ _ _ _ _ _ _ _ _ _ _ _ _ _ _ _ _ _ _ _ _ _ _ _ _ _ _ _ _ _ _ _ _ _ _ _ _ _ _ _ _ _ _ _ _ _ _ _ _ _ _ ?_
        intro n64 n65 n66 n67 n68 n69 n70 n71 n72 n73 n74 n75 n76 n77 n78 n79 n80 n81 n82 n83 n84 n85 n86 n87 n88 n89 n90 n91 n92 n93 n94 n95 n96 n97 n98 n99 n100 n101 n102 n103 n104 n105 W' A'
        rw [HC.out]
        have HAn := hide (show LvAt W lb (lvSubL gs (dn ++ (l.take (k + 1)).filter (mtB h g s))) W' from by
          rw [HF.out]
          exact ⟨HKp.out.trans A'.kp, A'.row⟩)
        clear A' HA HA' HBd HF HC HKp y5 y6
        go_wp2
        exact ⟨⟨k + 1, by omega, rfl, by go_num, HAn.out⟩, by simp [intOf]; omega⟩
      · have hN := HNx.out
        rw [if_neg em, List.append_nil] at hN
        have HAn := hide (show LvAt W lb (lvSubL gs (dn ++ (l.take (k + 1)).filter (mtB h g s))) wr from by
          rw [hN, hdk]
          exact HA.out)
        have hor : z.h ≠ h ∨ (z.h = h ∧ z.g ≠ g) ∨ (z.h = h ∧ z.g = g ∧ z.s ≠ s) := by
          by_cases e1 : z.h = h
          · by_cases e2 : z.g = g
            · by_cases e3 : z.s = s
              · exact absurd (by unfold mtB; simp [e1, e2, e3]) em
              · exact .inr (.inr ⟨e1, e2, e3⟩)
            · exact .inr (.inl ⟨e1, e2⟩)
          · exact .inl e1
        clear hN HNx HMt em HA HBd y5 y6
        rcases hor with e1 | ⟨e1, e2⟩ | ⟨e1, e2, e3⟩
        · have e1' : (z.h != (h : Int)) = true := by simpa using e1
          clear e1
          go_wp2
          exact ⟨⟨k + 1, by omega, rfl, by go_num, HAn.out⟩, by simp [intOf]; omega⟩
        · rw [e1] at y2
          have e2' : (z.g != (g : Int)) = true := by simpa using e2
          clear e1 e2
          go_wp2
          exact ⟨⟨k + 1, by omega, rfl, by go_num, HAn.out⟩, by simp [intOf]; omega⟩
        · rw [e1] at y2
          rw [e2] at y3
          have e3' : (z.s != (s : Int)) = true := by simpa using e3
          clear e1 e2 e3
          go_wp2
          exact ⟨⟨k + 1, by omega, rfl, by go_num, HAn.out⟩, by simp [intOf]; omega⟩
    · have hkl : k = l.length := by omega
      have hlk' : ¬ (k : Int) < (l.length : Int) := by omega
      have HA := hide A
      rw [hkl] at hlk' HA
      rw [List.take_length] at HA
      rw [hkl]
      clear A hlk hk hkl
      go_wp2
      exact HE.out _ _ _ _ _ _ _ _ _ _ _ _ _ _ _ _ _ _ _ _ _ _ _ _ _ _ _ _ _ _ _ _ _ _ _ _ _ _ _ _ _ _ _ _ _ _ _ _ _ _ _ _ _ _ _ _ _ _ _ _ _ _ _ _ _ _ _ _ _ _ _ _ _ _ _ _ wr HA.out

end

section
open Go.RowKit Go.Sort

set_option maxRecDepth 1000000 in
set_option maxHeartbeats 16000000 in
theorem cnt_l4 {W : World} {lb ng vc : Nat} {gs : List Lv} {va : Option Addr} (hng : gs.length = ng) (hlen : gs.length ≤ 60) (hz : ∀ l ∈ gs, l.q = 0 ∧ l.n = 0) (hva : 0 < gs.length → va = some ⟨lb, 0, none⟩) (hr : ∀ i (hi : i < gs.length) j u, gs[i].cells[j]? = some u → W.cell? ⟨lb, i * 3 + j, none⟩ = some u)
    (Q : Exit → Act → World → Prop) (u0 u1 u2 u3 u5 u6 u7 u8 u9 u10 u11 u12 u13 u14 u15 u16 u18 u19 u20 u21 u22 u23 u24 u25 u26 u27 u28 u29 u30 u31 u32 u33 u34 u35 u36 u37 u38 u39 u40 u41 u42 u43 u44 u45 u46 u47 u48 u49 u50 u51 u52 u53 u54 u55 u56 u57 u58 u59 u60 u61 u62 u63 u64 u65 u66 u67 u68 u69 u70 u71 u72 u73 u74 u75 u76 u77 u78 u79 u80 u81 u82 u83 u84 u85 u86 u87 u88 u89 u90 u91 u92 u93 u94 u95 u96 u97 u98 u99 u100 u101 u102 u103 u104 u105 u106 u107 u108 u109 u110 u111 u112 u113 u114 u115 u116 u117 u118 u119 u120 u121 u122 u123 u124 u125 u126 u127 : Value)
    (hE : ∀ (n10 n106 n107 n108 n109 n110 n111 n112 n113 n114 n115 n116 n117 n118 n119 n120 n121 n122 n123 n124 n125 : Value), Q (.exit 6) ⟨#[u0, u1, u2, u3, .slice va ng vc, u5, u6, u7, u8, u9, n10, u11, u12, u13, u14, u15, u16, .int .i64 ng, u18, u19, u20, u21, u22, u23, u24, u25, u26, u27, u28, u29, u30, u31, u32, u33, u34, u35, u36, u37, u38, u39, u40, u41, u42, u43, u44, u45, u46, u47, u48, u49, u50, u51, u52, u53, u54, u55, u56, u57, u58, u59, u60, u61, u62, u63, u64, u65, u66, u67, u68, u69, u70, u71, u72, u73, u74, u75, u76, u77, u78, u79, u80, u81, u82, u83, u84, u85, u86, u87, u88, u89, u90, u91, u92, u93, u94, u95, u96, u97, u98, u99, u100, u101, u102, u103, u104, u105, n106, n107, n108, n109, n110, n111, n112, n113, n114, n115, n116, n117, n118, n119, n120, n121, n122, n123, n124, n125, u126, u127], []⟩ W) :
    Code.wp Try.prog (Code.loop (loopAt Try.f24 3)) Q ⟨#[u0, u1, u2, u3, .slice va ng vc, u5, u6, u7, u8, u9, u10, u11, u12, u13, u14, u15, u16, .int .i64 0, u18, u19, u20, u21, u22, u23, u24, u25, u26, u27, u28, u29, u30, u31, u32, u33, u34, u35, u36, u37, u38, u39, u40, u41, u42, u43, u44, u45, u46, u47, u48, u49, u50, u51, u52, u53, u54, u55, u56, u57, u58, u59, u60, u61, u62, u63, u64, u65, u66, u67, u68, u69, u70, u71, u72, u73, u74, u75, u76, u77, u78, u79, u80, u81, u82, u83, u84, u85, u86, u87, u88, u89, u90, u91, u92, u93, u94, u95, u96, u97, u98, u99, u100, u101, u102, u103, u104, u105, u106, u107, u108, u109, u110, u111, u112, u113, u114, u115, u116, u117, u118, u119, u120, u121, u122, u123, u124, u125, u126, u127], []⟩ W := by
  have HE := hide hE
  have HVa := hide hva
  have HR := hide hr
  have HZ := hide hz
  clear hE hva hr hz
  subst hng
  conv => arg 2; arg 1; whnf
  dsimp only
  go_loopw [17] (fun j wr => ∃ k : Nat, k ≤ gs.length ∧ j = .int .i64 k ∧ wr = W) (fun j _ => gs.length - (intOf j).toNat)
  case atStart => exact ⟨0, Nat.zero_le _, rfl, rfl⟩
  case round =>
    obtain ⟨k, hk, rfl, rfl⟩ := hrel
    by_cases hlk : k < gs.length
    · obtain ⟨z1, z2⟩ := HZ.out gs[k] (List.getElem_mem hlk)
      have a1 := HR.out k hlk 1 (.int .i64 0) (by rw [← z1]; rfl)
      have a2 := HR.out k hlk 2 (.int .i64 0) (by rw [← z2]; rfl)
      have hva := HVa.out (by omega)
      subst hva
      have hlk' : (k : Int) < (gs.length : Int) := by omega
      clear z1 z2
      go_wp2
      exact ⟨⟨k + 1, by omega, by go_num, trivial⟩, by simp [intOf]; omega⟩
    · have hkl : k = gs.length := by omega
      have hlk' : ¬ (k : Int) < (gs.length : Int) := by omega
      rw [hkl] at hlk'
      rw [hkl]
      clear hlk hk hkl
      go_wp2
      exact HE.out _ _ _ _ _ _ _ _ _ _ _ _ _ _ _ _ _ _ _ _ _

theorem upG_flt {α : Type} (P : α → Bool) (f : Nat → Nat → List α) {g s G0 : Nat} (hs : s < 2) (h0 : ∀ b c, b < G0 → c < 2 → ¬ (b = g ∧ c = s) → (f b c).filter P = []) : ∀ G, G ≤ G0 → g < G → (upG f G).filter P = (f g s).filter P
  | 0, _, h => by omega
  | G + 1, hG, h => by
    simp only [upG, two, List.filter_append]
    by_cases e : G = g
    · subst e
      have h1 : (upG f G).filter P = [] := List.filter_eq_nil_iff.2 fun a ha hp => by
        obtain ⟨b, c, hb, hc, hm⟩ := mem_upG.1 ha
        exact List.filter_eq_nil_iff.1 (h0 b c (by omega) hc (by omega)) a hm hp
      rw [h1]
      rcases s with _ | _ | s
      · rw [h0 G 1 (by omega) (by omega) (by omega)]; simp
      · rw [h0 G 0 (by omega) (by omega) (by omega)]; simp
      · omega
    · rw [upG_flt P f hs h0 G (by omega) (by omega), h0 G 0 (by omega) (by omega) (by omega), h0 G 1 (by omega) (by omega) (by omega)]
      simp
theorem upH_flt {α : Type} (P : α → Bool) (G : Nat) (f : Nat → Nat → Nat → List α) {h g s H0 : Nat} (hg : g < G) (hs : s < 2) (h0 : ∀ a b c, a < H0 → b < G → c < 2 → ¬ (a = h ∧ b = g ∧ c = s) → (f a b c).filter P = []) : ∀ H, H ≤ H0 → h < H → (upH G f H).filter P = (f h g s).filter P
  | 0, _, hh => by omega
  | H + 1, hH, hh => by
    simp only [upH, List.filter_append]
    by_cases e : H = h
    · subst e
      have h1 : (upH G f H).filter P = [] := List.filter_eq_nil_iff.2 fun a ha hp => by
        obtain ⟨x, b, c, hx, hb, hc, hm⟩ := mem_upH.1 ha
        exact List.filter_eq_nil_iff.1 (h0 x b c (by omega) hb hc (by omega)) a hm hp
      rw [h1, upG_flt P (f H) (G0 := G) hs (fun b c hb hc q => h0 H b c (by omega) hb hc (by omega)) G (Nat.le_refl _) hg]
      simp
    · rw [upH_flt P G f hg hs h0 H (by omega) (by omega)]
      have h1 : (upG (f H) G).filter P = [] := List.filter_eq_nil_iff.2 fun a ha hp => by
        obtain ⟨b, c, hb, hc, hm⟩ := mem_upG.1 ha
        exact List.filter_eq_nil_iff.1 (h0 H b c (by omega) hb hc (by omega)) a hm hp
      rw [h1]
      simp

theorem mtB_all {m : Mt} {N : Int} (I : m.Inv N) {h g s : Nat} (q : at3 m h g s) : m.all.filter (mtB h g s) = m.bk h g s := by
  show (upH m.G m.bk m.H).filter _ = _
  rw [upH_flt (mtB h g s) m.G m.bk q.2.1 q.2.2 (H0 := m.H) (fun a b c ha hb hc e => List.filter_eq_nil_iff.2 fun o ho hm => by
    have k := I.od a b c o ha hb hc ho
    unfold mtB at hm
    have h1 := k.h
    have h2 := k.g
    have h3 := k.s
    simp at hm
    omega) m.H (Nat.le_refl _) q.1]
  refine List.filter_eq_self.2 fun o ho => ?_
  have k := I.od h g s o q.1 q.2.1 q.2.2 ho
  unfold mtB
  simp [k.h, k.g, k.s]

/-- of traders below t -/
def dnT (h g s : Nat) (l : List Od) (t : Nat) : List Od := l.filter fun o => decide (o.t < (t : Int)) && mtB h g s o

theorem perm_split {α : Type} (p q : α → Bool) : ∀ l : List α, (l.filter (fun a => p a || q a)).Perm (l.filter (fun a => p a) ++ l.filter (fun a => !p a && q a))
  | [] => List.Perm.nil
  | a :: l => by
    have ih := perm_split p q l
    by_cases hp : p a = true
    · rw [List.filter_cons_of_pos (by simp [hp]), List.filter_cons_of_pos hp, List.filter_cons_of_neg (by simp [hp])]
      exact ih.cons a
    · by_cases hq : q a = true
      · rw [List.filter_cons_of_pos (by simp [hq]), List.filter_cons_of_neg hp, List.filter_cons_of_pos (by simp [hp, hq])]
        exact (ih.cons a).trans List.perm_middle.symm
      · rw [List.filter_cons_of_neg (by simp [hp, hq]), List.filter_cons_of_neg hp, List.filter_cons_of_neg (by simp [hq])]
        exact ih

theorem dnT_next {m : Mt} {t h g s : Nat} {l dn : List Od} (T : Told m t l) (hd : dn.Perm (dnT h g s m.all t)) : (dn ++ l.filter (mtB h g s)).Perm (dnT h g s m.all (t + 1)) := by
  have h1 := perm_split (fun o : Od => decide (o.t < (t : Int)) && mtB h g s o) (fun o => decide (o.t = (t : Int)) && mtB h g s o) m.all
  have e1 : (m.all.filter fun o : Od => (decide (o.t < (t : Int)) && mtB h g s o) || (decide (o.t = (t : Int)) && mtB h g s o)) = dnT h g s m.all (t + 1) := by
    unfold dnT
    congr 1
    funext o
    have : decide (o.t < ((t + 1 : Nat) : Int)) = (decide (o.t < (t : Int)) || decide (o.t = (t : Int))) := by
      rw [← Bool.decide_or]
      congr 1
      simp only [eq_iff_iff]
      omega
    rw [this]
    cases decide (o.t < (t : Int)) <;> cases decide (o.t = (t : Int)) <;> simp
  rw [e1] at h1
  refine (List.Perm.append hd ?_).trans h1.symm
  refine (T.pm.filter (mtB h g s)).trans ?_
  unfold ofT
  rw [List.filter_filter]
  refine List.Perm.of_eq ?_
  congr 1
  funext o
  by_cases e : o.t = (t : Int)
  · simp [e]
  · simp [e]

set_option maxRecDepth 1000000 in
set_option maxHeartbeats 16000000 in
theorem counted_any {w : World} {rs : List Int} {X : Nat} {m : Mt} {N : Int} {W1 W : World} (D : DeskB w rs X m W1) (I : m.Inv N) (J : m.Jn) (hT : m.T = 4) (k0 : Kep non W1 W) {h g s lb vc : Nat} {va : Option Addr} (q : at3 m h g s) (ok : LvOk s (m.bk h g s) (lvL (m.bk h g s))) (hva : 0 < (lvL (m.bk h g s)).length → va = some ⟨lb, 0, none⟩) (hlb : W1.heap.size ≤ lb) (hlb2 : lb < W.heap.size) (A0 : LvAt W lb (lvL (m.bk h g s)) W) :
    Calls Try.prog 24 #[.pointer (some ⟨w.heap.size, 0, none⟩), .int .i64 h, .int .i64 g, .int .i64 s, .slice va (lvL (m.bk h g s)).length vc] W fun e w' => e = .returned (.bool true) ∧ Kep (fun b => b = lb) W w' := by
  have hq0 : ∀ o ∈ m.bk h g s, 1 ≤ o.q ∧ o.q ≤ 10000 := fun o ho => (I.od h g s o q.1 q.2.1 q.2.2 ho).q
  have hqa : ∀ o ∈ m.all, 1 ≤ o.q ∧ o.q ≤ 10000 := fun o ho => by
    obtain ⟨a, b, c, ha, hb, hc, hm⟩ := mem_upH.1 ho
    exact (I.od a b c o ha hb hc hm).q
  have lo : (m.bk h g s).length ≤ 60 := by have h1 := len_bk q; have h2 := I.a60; omega
  have hgl : (lvL (m.bk h g s)).length ≤ 60 := by have := (lvL_bd _ hq0).2; omega
  have HIn := hide (show ∀ t l, Told m t l → ∀ o ∈ l, mtB h g s o = true → o ∈ m.bk h g s from fun t l T o ho hm => by
    rw [← mtB_all I q]
    exact List.mem_filter.2 ⟨((T.mem o).1 ho).1, hm⟩)
  have HDl := hide (show ∀ t (dn : List Od), dn.Perm (dnT h g s m.all t) → dn.length ≤ 60 from fun t dn hp => by
    have h1 := hp.length_eq
    have h2 : (dnT h g s m.all t).length ≤ m.all.length := List.length_filter_le _ _
    have h3 := I.a60
    omega)
  have HZ := hide (show ∀ dn : List Od, dn.Perm (dnT h g s m.all 4) → ∀ l ∈ lvSubL (lvL (m.bk h g s)) dn, l.q = 0 ∧ l.n = 0 from fun dn hp => by
    refine lvSubL_zero ok (hp.trans (List.Perm.of_eq ?_))
    rw [← mtB_all I q]
    unfold dnT
    refine List.filter_congr fun o ho => ?_
    obtain ⟨a, b, c, ha, hb, hc, hm⟩ := mem_upH.1 ho
    have := (I.od a b c o ha hb hc hm).t
    have e : decide (o.t < ((4 : Nat) : Int)) = true := by simp; omega
    rw [e]
    simp)
  have HN0 := hide (show dnT h g s m.all 0 = [] from List.filter_eq_nil_iff.2 fun o ho => by
    obtain ⟨a, b, c, ha, hb, hc, hm⟩ := mem_upH.1 ho
    have := (I.od a b c o ha hb hc hm).t
    simp
    omega)
  have HOk := hide ok
  have HQ0 := hide hq0
  have HQa := hide hqa
  have HVa := hide hva
  have HA0 := hide A0
  have HI := hide I
  have HJ := hide J
  have HD := hide (fun V (k : Kep (fun b => b = lb) W V) => Desk.later D (k0.trans' k (fun i hi => .inr (by rw [hi]; exact hlb))))
  clear D I J k0 ok hq0 hqa hva A0
  generalize hgs : lvL (m.bk h g s) = gs at *
  generalize m.bk h g s = os at *
  clear hgs
  go_enter Try.func24, Try.ntmps24
  go_wp2
  go_loopw [11, 12] (fun a j wr => ∃ (t : Nat) (dn : List Od), t ≤ 4 ∧ a = .int .i64 0 ∧ j = .int .i64 t ∧ dn.Perm (dnT h g s m.all t) ∧ LvAt W lb (lvSubL gs dn) wr) (fun _ j _ => 4 - (intOf j).toNat)
  case atStart => exact ⟨0, [], by omega, rfl, rfl, by rw [HN0.out], by rw [lvSubL_nil]; exact HA0.out⟩
  case round =>
    clear HA0 HN0
    obtain ⟨t, dn, ht, rfl, rfl, hp, A⟩ := hrel
    by_cases ht4 : t < 4
    · have ht4' : (t : Int) < 4 := by omega
      have okt : okI m.T t := ⟨by omega, by omega⟩
      have D2 := HD.out wr A.kp
      have HOr := hide (Desk.orders D2 HI.out t)
      have cp := Desk.ptr D2
      have HA := hide A
      have HP := hide hp
      have sz := A.kp.size
      clear A hp D2
      go_wp2_with fail
      refine HOr.out.mono ?_
      rintro e w3 ⟨⟨k3, hO⟩, D3⟩
      rcases hO with ⟨f, _⟩ | ⟨_, v', l, hperm, hsort, hrow, rfl⟩
      · exact absurd okt f
      · obtain ⟨oa, oc, rfl⟩ := row_form hrow
        have T := HJ.out.told hperm hsort
        have hl60 := told_len T HI.out
        have HNx := hide (dnT_next (h := h) (g := g) (s := s) T HP.out)
        have HA3 := hide (show LvAt w3 lb (lvSubL gs dn) w3 from ⟨Kep.refl _ _, (HA.out.later k3).row⟩)
        have HK3 := hide (HA.out.later k3).kp
        have HIl := hide (HIn.out t l T)
        have HDq := hide (show ∀ o ∈ dn ++ l, 1 ≤ o.q ∧ o.q ≤ 10000 from fun o ho => by
          rcases List.mem_append.1 ho with ho | ho
          · exact HQa.out o (List.mem_filter.1 (HP.out.subset ho)).1
          · exact HQa.out o ((T.mem o).1 ho).1)
        have hld := HDl.out (t + 1) _ HNx.out
        have HRow := hide (show ∀ i, i < l.length → ∃ b, oa = some ⟨b, 0, none⟩ ∧ b ≠ lb ∧ ∀ i (hi : i < l.length) j u, l[i].cells[j]? = some u → w3.cell? ⟨b, i * 8 + j, none⟩ = some u from fun i hi => by
          obtain ⟨b, h1, h2, h3⟩ := row_at hrow i hi
          exact ⟨b, h1, by omega, h3⟩)
        clear HOr D3 hperm hsort hrow T k3 HA HP cp okt
        go_wp2
        refine cnt_l2 HOk.out hgl HQ0.out lo HDq.out hld hl60 HIl.out HVa.out HA3.out HRow.out _ _ _ _ _ _ _ _ _ _ _ _ _ _ _ _ _ _ _ _ _ _ _ _ _ _ _ _ _ _ _ _ _ _ _ _ _ _ _ _ _ _ _ _ _ _ _ _ _ _ _ _ _ _ _ _ _ _ _ _ _ _ _ _ _ _ _ _ _ _ _ _ _ _ _ _ _ _ _ _ _ _ _ _ _ _ _ _ _ _ _ _ _ _ _ _ _ _ _ _ _ _ _ _ _ _ _ _ _ _ _ _ _ _ _ _ _ _ _ _ _ _ ?_
        intro n16 n31 n32 n33 n34 n35 n36 n37 n38 n39 n40 n41 n42 n43 n44 n45 n46 n47 n48 n49 n50 n51 n52 n53 n54 n55 n56 n57 n58 n59 n60 n61 n62 n63 n64 n65 n66 n67 n68 n69 n70 n71 n72 n73 n74 n75 n76 n77 n78 n79 n80 n81 n82 n83 n84 n85 n86 n87 n88 n89 n90 n91 n92 n93 n94 n95 n96 n97 n98 n99 n100 n101 n102 n103 n104 n105 W' A'
        have HAn := hide (show LvAt W lb (lvSubL gs (dn ++ l.filter (mtB h g s))) W' from ⟨HK3.out.trans A'.kp, A'.row⟩)
        clear A' HA3 HK3 HRow HIl HDq
        go_wp2
        exact ⟨⟨t + 1, _, by omega, rfl, by go_num, HNx.out, HAn.out⟩, by simp [intOf]; omega⟩
    · have e4 : t = 4 := by omega
      subst e4
      have HZd := hide (HZ.out dn hp)
      have HA := hide A
      clear A hp HD HZ
      go_wp2
      refine cnt_l4 (lvSubL_len gs dn) (by rw [lvSubL_len]; exact hgl) HZd.out (by rw [lvSubL_len]; exact HVa.out) (fun i hi j u hu => (HA.out.row i hi j u hu).cell) _ _ _ _ _ _ _ _ _ _ _ _ _ _ _ _ _ _ _ _ _ _ _ _ _ _ _ _ _ _ _ _ _ _ _ _ _ _ _ _ _ _ _ _ _ _ _ _ _ _ _ _ _ _ _ _ _ _ _ _ _ _ _ _ _ _ _ _ _ _ _ _ _ _ _ _ _ _ _ _ _ _ _ _ _ _ _ _ _ _ _ _ _ _ _ _ _ _ _ _ _ _ _ _ _ _ _ _ _ _ _ _ _ _ _ _ _ _ _ _ _ _ _ _ _ _ _ ?_
      intro n10 n106 n107 n108 n109 n110 n111 n112 n113 n114 n115 n116 n117 n118 n119 n120 n121 n122 n123 n124 n125
      go_wp2
      go_ret
      exact ⟨rfl, HA.out.kp⟩

end

end Go.Proofs.Ytcfoobhihhndjaa
