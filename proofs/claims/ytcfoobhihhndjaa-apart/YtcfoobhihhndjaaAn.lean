/- Apart: levels go from the better to the worse; the books of a hall. -/
import Derived.Test.YtcfoobhihhndjaaAm
import Derived.Test.YtcfoobhihhndjaaBk
namespace Go.Proofs.Ytcfoobhihhndjaa

section
open Go.RowKit Go.Sort

set_option maxRecDepth 1000000 in
set_option maxHeartbeats 16000000 in
theorem apart_l4 {W : World} {lb vc : Nat} {gs : List Lv} {va : Option Addr} (hlen : gs.length ≤ 60) (hpw : gs.Pairwise fun a b => Sr 0 a.p b.p) (hva : 0 < gs.length → va = some ⟨lb, 0, none⟩) (hr : ∀ i (hi : i < gs.length) j u, gs[i].cells[j]? = some u → W.cell? ⟨lb, i * 3 + j, none⟩ = some u)
    (Q : Exit → Act → World → Prop) (u0 u1 u2 u3 u4 u5 u6 u7 u8 u10 u11 u13 u14 u15 u16 u17 u18 u19 u20 u21 u22 u23 u24 u25 u26 u27 u28 u29 u30 u31 u32 u33 u34 u35 u36 u37 u38 u39 u40 u41 u42 u43 u44 u45 u46 u47 u48 u49 u50 u51 u52 u53 u54 u55 u56 u57 u58 u59 u60 u61 u62 u63 u64 u65 u66 u67 u68 u69 u70 u71 u72 u73 u74 u75 u76 u77 u78 u79 u80 u81 u82 u83 u84 u85 u86 u87 u88 u89 u90 u91 u92 u93 u94 u95 u96 u97 u98 u99 u100 u101 u102 u103 u104 u105 u106 u107 u108 u109 u110 u111 u112 u113 u114 u115 u116 u117 u118 u119 u120 u121 u122 u123 u124 u125 u126 u127 u128 u129 u130 u131 u132 u133 u134 u135 u136 : Value)
    (hE : ∀ (n12 n4 n83 n84 n85 n86 n87 n88 n89 n90 n91 n92 n93 n94 n95 n96 n97 n98 n99 n100 n101 : Value) (W' : World), Kep non W W' → Q (.exit 6) ⟨#[u0, u1, u2, u3, n4, u5, u6, u7, u8, .slice va gs.length vc, u10, u11, n12, u13, u14, u15, u16, u17, u18, u19, u20, u21, u22, u23, u24, u25, u26, u27, u28, u29, u30, u31, u32, u33, u34, u35, u36, u37, u38, u39, u40, u41, u42, u43, u44, u45, u46, u47, u48, u49, u50, u51, u52, u53, u54, u55, u56, u57, u58, u59, u60, u61, u62, u63, u64, u65, u66, u67, u68, u69, u70, u71, u72, u73, u74, u75, u76, u77, u78, u79, u80, u81, u82, n83, n84, n85, n86, n87, n88, n89, n90, n91, n92, n93, n94, n95, n96, n97, n98, n99, n100, n101, u102, u103, u104, u105, u106, u107, u108, u109, u110, u111, u112, u113, u114, u115, u116, u117, u118, u119, u120, u121, u122, u123, u124, u125, u126, u127, u128, u129, u130, u131, u132, u133, u134, u135, u136], []⟩ W') :
    Code.wp Try.prog (Code.loop (loopAt Try.f7 3)) Q ⟨#[u0, u1, u2, u3, u4, u5, u6, u7, u8, .slice va gs.length vc, u10, u11, .int .i64 0, u13, u14, u15, u16, u17, u18, u19, u20, u21, u22, u23, u24, u25, u26, u27, u28, u29, u30, u31, u32, u33, u34, u35, u36, u37, u38, u39, u40, u41, u42, u43, u44, u45, u46, u47, u48, u49, u50, u51, u52, u53, u54, u55, u56, u57, u58, u59, u60, u61, u62, u63, u64, u65, u66, u67, u68, u69, u70, u71, u72, u73, u74, u75, u76, u77, u78, u79, u80, u81, u82, u83, u84, u85, u86, u87, u88, u89, u90, u91, u92, u93, u94, u95, u96, u97, u98, u99, u100, u101, u102, u103, u104, u105, u106, u107, u108, u109, u110, u111, u112, u113, u114, u115, u116, u117, u118, u119, u120, u121, u122, u123, u124, u125, u126, u127, u128, u129, u130, u131, u132, u133, u134, u135, u136], []⟩ W := by
  have HE := hide hE
  have HVa := hide hva
  have HR := hide hr
  have HP := hide hpw
  clear hE hva hr hpw
  conv => arg 2; arg 1; whnf
  dsimp only
  go_loopw [12] (fun j wr => ∃ k : Nat, k ≤ gs.length ∧ j = .int .i64 k ∧ Kep non W wr) (fun j _ => gs.length - (intOf j).toNat)
  case atStart => exact ⟨0, Nat.zero_le _, rfl, Kep.refl _ _⟩
  case round =>
    obtain ⟨k, hk, rfl, K⟩ := hrel
    by_cases hlk : k + 1 < gs.length
    · have a0 := K.cell (HR.out k (by omega) 0 _ rfl) (fun f => f)
      have a1 := K.cell (HR.out (k + 1) hlk 0 _ rfl) (fun f => f)
      simp only [Nat.add_zero] at a0 a1
      have hs := List.pairwise_iff_getElem.1 HP.out k (k + 1) (by omega) hlk (by omega)
      unfold Sr at hs
      simp only [if_pos] at hs
      have hva := HVa.out (by omega)
      subst hva
      have hlk' : ((k : Int) + 1) < (gs.length : Int) := by omega
      have hlk2 : (k : Int) < (gs.length : Int) := by omega
      have ew : IntKind.i64.wrap ((k : Int) + 1) = (k : Int) + 1 := by rw [IntKind.wrap_i64]; omega
      have HK := hide K
      have ed : decide (gs[k].p ≤ gs[k + 1].p) = false := decide_eq_false (by omega)
      clear K hs
      generalize gs[k].p = p0 at *
      generalize gs[k + 1].p = p1 at *
      go_wp2_with fail
      go_cut [101] from 90 to 101 (fun v wx => v = .bool false ∧ Kep non wr wx)
      case first =>
        clear HE
        go_quiet (fail)
        go_wp2
        go_meet
        exact ⟨by first | rfl | rw [ed], by (repeat (first | apply Kep.drewN | apply Kep.drew)); exact Kep.refl _ _⟩
      case rest =>
        obtain ⟨rfl, kc⟩ := hcut
        have HKc := hide (HK.out.trans kc)
        clear HK kc a0 a1
        go_wp2
        exact ⟨⟨k + 1, by omega, by go_num, HKc.out⟩, by simp [intOf]; omega⟩
    · have hlk' : ¬ ((k : Int) + 1) < (gs.length : Int) := by omega
      have ew : IntKind.i64.wrap ((k : Int) + 1) = (k : Int) + 1 := by rw [IntKind.wrap_i64]; omega
      have HK := hide K
      clear K
      go_wp2
      exact HE.out _ _ _ _ _ _ _ _ _ _ _ _ _ _ _ _ _ _ _ _ _ wr HK.out

set_option maxRecDepth 1000000 in
set_option maxHeartbeats 16000000 in
theorem apart_l5 {W : World} {lb vc : Nat} {gs : List Lv} {va : Option Addr} (hlen : gs.length ≤ 60) (hpw : gs.Pairwise fun a b => Sr 1 a.p b.p) (hva : 0 < gs.length → va = some ⟨lb, 0, none⟩) (hr : ∀ i (hi : i < gs.length) j u, gs[i].cells[j]? = some u → W.cell? ⟨lb, i * 3 + j, none⟩ = some u)
    (Q : Exit → Act → World → Prop) (u0 u1 u2 u3 u4 u5 u6 u7 u8 u9 u11 u12 u14 u15 u16 u17 u18 u19 u20 u21 u22 u23 u24 u25 u26 u27 u28 u29 u30 u31 u32 u33 u34 u35 u36 u37 u38 u39 u40 u41 u42 u43 u44 u45 u46 u47 u48 u49 u50 u51 u52 u53 u54 u55 u56 u57 u58 u59 u60 u61 u62 u63 u64 u65 u66 u67 u68 u69 u70 u71 u72 u73 u74 u75 u76 u77 u78 u79 u80 u81 u82 u83 u84 u85 u86 u87 u88 u89 u90 u91 u92 u93 u94 u95 u96 u97 u98 u99 u100 u101 u102 u103 u104 u105 u106 u107 u108 u109 u110 u111 u112 u113 u114 u115 u116 u117 u118 u119 u120 u121 u122 u123 u124 u125 u126 u127 u128 u129 u130 u131 u132 u133 u134 u135 u136 : Value)
    (hE : ∀ (n13 n4 n102 n103 n104 n105 n106 n107 n108 n109 n110 n111 n112 n113 n114 n115 n116 n117 n118 n119 n120 : Value) (W' : World), Kep non W W' → Q (.exit 8) ⟨#[u0, u1, u2, u3, n4, u5, u6, u7, u8, u9, .slice va gs.length vc, u11, u12, n13, u14, u15, u16, u17, u18, u19, u20, u21, u22, u23, u24, u25, u26, u27, u28, u29, u30, u31, u32, u33, u34, u35, u36, u37, u38, u39, u40, u41, u42, u43, u44, u45, u46, u47, u48, u49, u50, u51, u52, u53, u54, u55, u56, u57, u58, u59, u60, u61, u62, u63, u64, u65, u66, u67, u68, u69, u70, u71, u72, u73, u74, u75, u76, u77, u78, u79, u80, u81, u82, u83, u84, u85, u86, u87, u88, u89, u90, u91, u92, u93, u94, u95, u96, u97, u98, u99, u100, u101, n102, n103, n104, n105, n106, n107, n108, n109, n110, n111, n112, n113, n114, n115, n116, n117, n118, n119, n120, u121, u122, u123, u124, u125, u126, u127, u128, u129, u130, u131, u132, u133, u134, u135, u136], []⟩ W') :
    Code.wp Try.prog (Code.loop (loopAt Try.f7 4)) Q ⟨#[u0, u1, u2, u3, u4, u5, u6, u7, u8, u9, .slice va gs.length vc, u11, u12, .int .i64 0, u14, u15, u16, u17, u18, u19, u20, u21, u22, u23, u24, u25, u26, u27, u28, u29, u30, u31, u32, u33, u34, u35, u36, u37, u38, u39, u40, u41, u42, u43, u44, u45, u46, u47, u48, u49, u50, u51, u52, u53, u54, u55, u56, u57, u58, u59, u60, u61, u62, u63, u64, u65, u66, u67, u68, u69, u70, u71, u72, u73, u74, u75, u76, u77, u78, u79, u80, u81, u82, u83, u84, u85, u86, u87, u88, u89, u90, u91, u92, u93, u94, u95, u96, u97, u98, u99, u100, u101, u102, u103, u104, u105, u106, u107, u108, u109, u110, u111, u112, u113, u114, u115, u116, u117, u118, u119, u120, u121, u122, u123, u124, u125, u126, u127, u128, u129, u130, u131, u132, u133, u134, u135, u136], []⟩ W := by
  have HE := hide hE
  have HVa := hide hva
  have HR := hide hr
  have HP := hide hpw
  clear hE hva hr hpw
  conv => arg 2; arg 1; whnf
  dsimp only
  go_loopw [13] (fun j wr => ∃ k : Nat, k ≤ gs.length ∧ j = .int .i64 k ∧ Kep non W wr) (fun j _ => gs.length - (intOf j).toNat)
  case atStart => exact ⟨0, Nat.zero_le _, rfl, Kep.refl _ _⟩
  case round =>
    obtain ⟨k, hk, rfl, K⟩ := hrel
    by_cases hlk : k + 1 < gs.length
    · have a0 := K.cell (HR.out k (by omega) 0 _ rfl) (fun f => f)
      have a1 := K.cell (HR.out (k + 1) hlk 0 _ rfl) (fun f => f)
      simp only [Nat.add_zero] at a0 a1
      have hs := List.pairwise_iff_getElem.1 HP.out k (k + 1) (by omega) hlk (by omega)
      unfold Sr at hs
      simp only [Nat.one_ne_zero, if_false] at hs
      have hva := HVa.out (by omega)
      subst hva
      have hlk' : ((k : Int) + 1) < (gs.length : Int) := by omega
      have hlk2 : (k : Int) < (gs.length : Int) := by omega
      have ew : IntKind.i64.wrap ((k : Int) + 1) = (k : Int) + 1 := by rw [IntKind.wrap_i64]; omega
      have HK := hide K
      have ed : decide (gs[k + 1].p ≤ gs[k].p) = false := decide_eq_false (by omega)
      clear K hs
      generalize gs[k].p = p0 at *
      generalize gs[k + 1].p = p1 at *
      go_wp2_with fail
      go_cut [120] from 109 to 120 (fun v wx => v = .bool false ∧ Kep non wr wx)
      case first =>
        clear HE
        go_quiet (fail)
        go_wp2
        go_meet
        exact ⟨by first | rfl | rw [ed], by (repeat (first | apply Kep.drewN | apply Kep.drew)); exact Kep.refl _ _⟩
      case rest =>
        obtain ⟨rfl, kc⟩ := hcut
        have HKc := hide (HK.out.trans kc)
        clear HK kc a0 a1
        go_wp2
        exact ⟨⟨k + 1, by omega, by go_num, HKc.out⟩, by simp [intOf]; omega⟩
    · have hlk' : ¬ ((k : Int) + 1) < (gs.length : Int) := by omega
      have ew : IntKind.i64.wrap ((k : Int) + 1) = (k : Int) + 1 := by rw [IntKind.wrap_i64]; omega
      have HK := hide K
      clear K
      go_wp2
      exact HE.out _ _ _ _ _ _ _ _ _ _ _ _ _ _ _ _ _ _ _ _ _ wr HK.out

end

section
open Go.RowKit Go.Sort

theorem bk_ok {m : Mt} (J : m.Jn) {h g s : Nat} (q : at3 m h g s) : LvOk s (m.bk h g s) (lvL (m.bk h g s)) := by
  refine lvOk _ ((J.srt q).imp fun {a b} h1 => ?_)
  rw [ahd_iff] at h1
  unfold Sr
  split <;> omega

/-- where a row of levels lies -/
theorem row_lies {W : World} {B : Nat} {gs : List Lv} {va : Option Addr} {vc x : Nat} (r : W.ownsRow B 69 3 (.slice va gs.length vc) gs.length (lvCells gs)) : ∃ lb, (0 < gs.length → va = some ⟨lb, 0, none⟩) ∧ ((B ≤ lb ∧ (Value.slice va gs.length vc).ownBlock = some lb) ∨ lb = x) ∧ LvAt W lb gs W := by
  by_cases h0 : 0 < gs.length
  · obtain ⟨ob, oc, ov, _, _⟩ := r.form h0
    simp only [Value.slice.injEq, true_and] at ov
    obtain ⟨rfl, rfl⟩ := ov
    exact ⟨ob, fun _ => rfl, .inl ⟨(r.lt ob rfl).1, rfl⟩, LvAt.of r⟩
  · exact ⟨x, fun f => absurd f h0, .inr rfl, Kep.refl _ _, fun i hi => absurd hi (by omega)⟩

theorem Desk.book {w : World} {rs : List Int} {x : Nat} {mon p0 p1 : Int} {m : Mt} {W : World} {N : Int} (D : Desk w rs x mon p0 p1 m W) (I : m.Inv N) {h g : Nat} (hh : h < m.H) (hg : g < m.G) : Calls Try.prog 23 #[.pointer (some ⟨x, 0, none⟩), .int .i64 h, .int .i64 g] W (BookPost W m h g) := by
  obtain ⟨L, rv, pb, rfl, D⟩ := D
  exact book_any W L m N D.R I.ok h g hh hg

set_option maxRecDepth 1000000 in
set_option maxHeartbeats 16000000 in
theorem apart_l3 {w : World} {rs : List Int} {X k h : Nat} {m : Mt} {W : World} (D : DeskB w rs X m W) (St : Stood rs k m) (hh : h < rs.length)
    (Q : Exit → Act → World → Prop) (u0 u1 u2 u3 u4 u6 u9 u10 u11 u12 u13 u14 u15 u16 u17 u18 u19 u20 u21 u22 u23 u24 u25 u26 u27 u28 u29 u30 u31 u32 u33 u34 u35 u36 u37 u38 u39 u40 u41 u42 u43 u44 u45 u46 u47 u48 u49 u50 u51 u52 u53 u54 u55 u56 u57 u58 u59 u60 u61 u62 u63 u64 u65 u66 u67 u68 u69 u70 u71 u72 u73 u74 u75 u76 u77 u78 u79 u80 u81 u82 u83 u84 u85 u86 u87 u88 u89 u90 u91 u92 u93 u94 u95 u96 u97 u98 u99 u100 u101 u102 u103 u104 u105 u106 u107 u108 u109 u110 u111 u112 u113 u114 u115 u116 u117 u118 u119 u120 u121 u122 u123 u124 u125 u126 u127 u128 u129 u130 u131 u132 u133 u134 u135 u136 : Value)
    (hE : ∀ (n4 n9 n10 n11 n12 n13 n14 n15 n45 n46 n47 n48 n49 n50 n51 n52 n53 n54 n55 n56 n57 n58 n59 n60 n61 n62 n63 n64 n65 n66 n67 n68 n69 n70 n71 n72 n73 n74 n75 n76 n77 n78 n79 n80 n81 n82 n83 n84 n85 n86 n87 n88 n89 n90 n91 n92 n93 n94 n95 n96 n97 n98 n99 n100 n101 n102 n103 n104 n105 n106 n107 n108 n109 n110 n111 n112 n113 n114 n115 n116 n117 n118 n119 n120 n121 n122 n123 n124 n125 n126 n127 n128 n129 n130 n131 n132 n133 n134 n135 n136 : Value) (W' : World), DeskB w rs X m W' → Q (.exit 4) ⟨#[u0, u1, u2, u3, n4, .pointer (some ⟨w.heap.size, 0, none⟩), u6, .int .i64 h, .int .i64 2, n9, n10, n11, n12, n13, n14, n15, u16, u17, u18, u19, u20, u21, u22, u23, u24, u25, u26, u27, u28, u29, u30, u31, u32, u33, u34, u35, u36, u37, u38, u39, u40, u41, u42, u43, u44, n45, n46, n47, n48, n49, n50, n51, n52, n53, n54, n55, n56, n57, n58, n59, n60, n61, n62, n63, n64, n65, n66, n67, n68, n69, n70, n71, n72, n73, n74, n75, n76, n77, n78, n79, n80, n81, n82, n83, n84, n85, n86, n87, n88, n89, n90, n91, n92, n93, n94, n95, n96, n97, n98, n99, n100, n101, n102, n103, n104, n105, n106, n107, n108, n109, n110, n111, n112, n113, n114, n115, n116, n117, n118, n119, n120, n121, n122, n123, n124, n125, n126, n127, n128, n129, n130, n131, n132, n133, n134, n135, n136], []⟩ W') :
    Code.wp Try.prog (Code.loop (loopAt Try.f7 2)) Q ⟨#[u0, u1, u2, u3, u4, .pointer (some ⟨w.heap.size, 0, none⟩), u6, .int .i64 h, .int .i64 0, u9, u10, u11, u12, u13, u14, u15, u16, u17, u18, u19, u20, u21, u22, u23, u24, u25, u26, u27, u28, u29, u30, u31, u32, u33, u34, u35, u36, u37, u38, u39, u40, u41, u42, u43, u44, u45, u46, u47, u48, u49, u50, u51, u52, u53, u54, u55, u56, u57, u58, u59, u60, u61, u62, u63, u64, u65, u66, u67, u68, u69, u70, u71, u72, u73, u74, u75, u76, u77, u78, u79, u80, u81, u82, u83, u84, u85, u86, u87, u88, u89, u90, u91, u92, u93, u94, u95, u96, u97, u98, u99, u100, u101, u102, u103, u104, u105, u106, u107, u108, u109, u110, u111, u112, u113, u114, u115, u116, u117, u118, u119, u120, u121, u122, u123, u124, u125, u126, u127, u128, u129, u130, u131, u132, u133, u134, u135, u136], []⟩ W := by
  have HE := hide hE
  have HD0 := hide D
  have HSt := hide St
  clear hE D St
  conv => arg 2; arg 1; whnf
  dsimp only
  go_loopw [8] (fun j wr => ∃ g : Nat, g ≤ 2 ∧ j = .int .i64 g ∧ DeskB w rs X m wr) (fun j _ => 2 - (intOf j).toNat)
  case atStart => exact ⟨0, by omega, rfl, HD0.out⟩
  case round =>
    clear HD0
    obtain ⟨g, hg, rfl, D⟩ := hrel
    by_cases hg2 : g < 2
    · have hg2' : (g : Int) < 2 := by omega
      have hhH : h < m.H := by rw [HSt.out.H]; exact hh
      have hgG : g < m.G := by rw [HSt.out.G]; exact hg2
      have I := HSt.out.inv
      have J := HSt.out.jn
      have q0 : at3 m h g 0 := ⟨hhH, hgG, by decide⟩
      have q1 : at3 m h g 1 := ⟨hhH, hgG, by decide⟩
      have HBk := hide (Desk.book D I hhH hgG)
      have cp := Desk.ptr D
      have HD := hide D
      have ok0 := bk_ok J q0
      have ok1 := bk_ok J q1
      have hl0 : (lvL (m.bk h g 0)).length ≤ 60 := by
        have h1 := (lvL_bd (m.bk h g 0) (fun o ho => (I.od h g 0 o q0.1 q0.2.1 q0.2.2 ho).q)).2
        have h2 := len_bk q0
        have h3 := I.a60
        omega
      have hl1 : (lvL (m.bk h g 1)).length ≤ 60 := by
        have h1 := (lvL_bd (m.bk h g 1) (fun o ho => (I.od h g 1 o q1.1 q1.2.1 q1.2.2 ho).q)).2
        have h2 := len_bk q1
        have h3 := I.a60
        omega
      have HSp := hide (show ∀ a ∈ lvL (m.bk h g 0), ∀ b ∈ lvL (m.bk h g 1), a.p < b.p from fun a ha b hb => by
        obtain ⟨x, hx, e1⟩ := ok0.fr a ha
        obtain ⟨y, hy, e2⟩ := ok1.fr b hb
        have := J.spr hhH hgG hx hy
        omega)
      have HC0 := hide (fun (V : World) (kV : Kep non wr V) (lb vc : Nat) (va : Option Addr) (hva : 0 < (lvL (m.bk h g 0)).length → va = some ⟨lb, 0, none⟩) (h1 : wr.heap.size ≤ lb) (h2 : lb < V.heap.size) (A : LvAt V lb (lvL (m.bk h g 0)) V) => counted_any (vc := vc) D I J HSt.out.T kV q0 ok0 hva h1 h2 A)
      have HC1 := hide (fun (V : World) (kV : Kep non wr V) (lb vc : Nat) (va : Option Addr) (hva : 0 < (lvL (m.bk h g 1)).length → va = some ⟨lb, 0, none⟩) (h1 : wr.heap.size ≤ lb) (h2 : lb < V.heap.size) (A : LvAt V lb (lvL (m.bk h g 1)) V) => counted_any (vc := vc) D I J HSt.out.T kV q1 ok1 hva h1 h2 A)
      have HPw0 := hide ok0.pw
      have HPw1 := hide ok1.pw
      clear D I J q0 q1 ok0 ok1
      go_wp2_with fail
      refine HBk.out.mono ?_
      rintro e' w3 ⟨v, u, B, rfl, r0, r1, z1, z2, l0, b3⟩
      generalize lvL (m.bk h g 0) = g0 at *
      generalize lvL (m.bk h g 1) = g1 at *
      obtain ⟨va, vc, rfl⟩ := row_form r0
      obtain ⟨ua, uc, rfl⟩ := row_form r1
      obtain ⟨lb0, hva, hb0, A0⟩ := row_lies (x := wr.heap.size) r0
      obtain ⟨lb1, hua, hb1, A1⟩ := row_lies (x := B) r1
      have lb0b : wr.heap.size ≤ lb0 ∧ lb0 < B := by
        rcases hb0 with ⟨h1, h2⟩ | rfl
        · exact ⟨h1, l0 _ h2⟩
        · exact ⟨Nat.le_refl _, z1⟩
      have lb1b : B ≤ lb1 ∧ lb1 < w3.heap.size := by
        rcases hb1 with ⟨h1, h2⟩ | rfl
        · exact ⟨h1, (r1.lt _ h2).2⟩
        · exact ⟨Nat.le_refl _, z2⟩
      have k3 : Kep non wr w3 := Kep.of_below b3
      have HA0 := hide A0
      have HA1 := hide A1
      have HK3 := hide k3
      have HHd := hide (show 0 < g0.length → 0 < g1.length → ∃ p0 p1 : Int, p0 < p1 ∧ va = some ⟨lb0, 0, none⟩ ∧ ua = some ⟨lb1, 0, none⟩ ∧ w3.cell? ⟨lb0, 0, none⟩ = some (.int .i64 p0) ∧ w3.cell? ⟨lb1, 0, none⟩ = some (.int .i64 p1) from fun h0 h1 => by
        have c0 := (A0.row 0 h0 0 _ rfl).cell
        have c1 := (A1.row 0 h1 0 _ rfl).cell
        exact ⟨_, _, HSp.out _ (List.getElem_mem h0) _ (List.getElem_mem h1), hva h0, hua h1, by simpa using c0, by simpa using c1⟩)
      clear HBk r0 r1 hb0 hb1 l0 b3 A0 A1 k3 cp HSp
      go_wp2_with fail
      go_cut [82] from 60 to 82 (fun v82 wx => v82 = .bool false ∧ Kep non w3 wx)
      case first =>
        clear HE HA0 HA1 HK3 HC0 HC1 HPw0 HPw1 HD HSt
        by_cases h0 : 0 < g0.length
        · have h0' : (0 : Int) < (g0.length : Int) := by omega
          by_cases h1 : 0 < g1.length
          · have h1' : (0 : Int) < (g1.length : Int) := by omega
            obtain ⟨p0, p1, hp, rfl, rfl, c0, c1⟩ := HHd.out h0 h1
            have ed : decide (p1 ≤ p0) = false := decide_eq_false (by omega)
            clear HHd hva hua
            go_quiet (fail)
            go_wp2
            go_meet
            exact ⟨by first | rfl | rw [ed], by (repeat (first | apply Kep.drewN | apply Kep.drew)); exact Kep.refl _ _⟩
          · have h1' : ¬ (0 : Int) < (g1.length : Int) := by omega
            have h1d : decide ((0 : Int) < (g1.length : Int)) = false := decide_eq_false h1'
            clear HHd hva hua
            go_quiet (fail)
            go_wp2
            go_meet
            exact ⟨rfl, by (repeat (first | apply Kep.drewN | apply Kep.drew)); exact Kep.refl _ _⟩
        · have h0' : ¬ (0 : Int) < (g0.length : Int) := by omega
          have h0d : decide ((0 : Int) < (g0.length : Int)) = false := decide_eq_false h0'
          clear HHd hva hua
          go_quiet (fail)
          go_wp2
          go_meet
          exact ⟨rfl, by (repeat (first | apply Kep.drewN | apply Kep.drew)); exact Kep.refl _ _⟩
      case rest =>
        obtain ⟨rfl, kc⟩ := hcut
        clear HHd
        have Bc := hide (HA0.out.later kc)
        have Bd := hide (HA1.out.later kc)
        have HKc := hide (HK3.out.trans kc)
        have sc := kc.size
        clear kc HA0 HA1 HK3
        go_wp2
        refine apart_l4 hl0 HPw0.out hva (fun i hi j u hu => (Bc.out.row i hi j u hu).cell) _ _ _ _ _ _ _ _ _ _ _ _ _ _ _ _ _ _ _ _ _ _ _ _ _ _ _ _ _ _ _ _ _ _ _ _ _ _ _ _ _ _ _ _ _ _ _ _ _ _ _ _ _ _ _ _ _ _ _ _ _ _ _ _ _ _ _ _ _ _ _ _ _ _ _ _ _ _ _ _ _ _ _ _ _ _ _ _ _ _ _ _ _ _ _ _ _ _ _ _ _ _ _ _ _ _ _ _ _ _ _ _ _ _ _ _ _ _ _ _ _ _ _ _ _ _ _ _ _ _ _ _ _ _ _ _ ?_
        intro n12 n4 n83 n84 n85 n86 n87 n88 n89 n90 n91 n92 n93 n94 n95 n96 n97 n98 n99 n100 n101 w4 k4
        have Bc4 := hide (Bc.out.later k4)
        have Bd4 := hide (Bd.out.later k4)
        have HK4 := hide (HKc.out.trans k4)
        have s4 := k4.size
        clear k4 Bc Bd HKc
        go_wp2
        refine apart_l5 hl1 HPw1.out hua (fun i hi j u hu => (Bd4.out.row i hi j u hu).cell) _ _ _ _ _ _ _ _ _ _ _ _ _ _ _ _ _ _ _ _ _ _ _ _ _ _ _ _ _ _ _ _ _ _ _ _ _ _ _ _ _ _ _ _ _ _ _ _ _ _ _ _ _ _ _ _ _ _ _ _ _ _ _ _ _ _ _ _ _ _ _ _ _ _ _ _ _ _ _ _ _ _ _ _ _ _ _ _ _ _ _ _ _ _ _ _ _ _ _ _ _ _ _ _ _ _ _ _ _ _ _ _ _ _ _ _ _ _ _ _ _ _ _ _ _ _ _ _ _ _ _ _ _ _ _ _ ?_
        intro m13 m4 m102 m103 m104 m105 m106 m107 m108 m109 m110 m111 m112 m113 m114 m115 m116 m117 m118 m119 m120 w5 k5
        have A5 := Bc4.out.later k5
        have B5 := Bd4.out.later k5
        have HK5 := hide (HK4.out.trans k5)
        have s5 := k5.size
        have HCa := hide (HC0.out w5 HK5.out lb0 vc va hva lb0b.1 (by omega) ⟨Kep.refl _ _, A5.row⟩)
        have HR5 := hide B5.row
        clear k5 Bc4 Bd4 HK4 A5 B5
        go_wp2_with fail
        refine HCa.out.mono ?_
        rintro e' w6 ⟨rfl, k6⟩
        have K6 := HK5.out.trans' k6 (fun i hi => .inr (by rw [hi]; exact lb0b.1))
        have s6 := k6.size
        have HCb := hide (HC1.out w6 K6 lb1 uc ua hua (by omega) (by omega) ⟨Kep.refl _ _, fun i hi j u hu => (HR5.out i hi j u hu).kep k6 (fun f => by have h1 : lb1 = lb0 := f; omega)⟩)
        have HK6 := hide K6
        clear k6 K6 HCa HR5
        go_wp2_with fail
        refine HCb.out.mono ?_
        rintro e' w7 ⟨rfl, k7⟩
        have HDn := hide (Desk.later HD.out (HK6.out.trans' k7 (fun i hi => .inr (by rw [hi]; omega))))
        clear k7 HCb HK6 HK5
        go_wp2
        exact ⟨⟨g + 1, by omega, by go_num, HDn.out⟩, by simp [intOf]; omega⟩
    · have e2 : g = 2 := by omega
      subst e2
      have HD := hide D
      clear D
      go_wp2
      exact HE.out _ _ _ _ _ _ _ _ _ _ _ _ _ _ _ _ _ _ _ _ _ _ _ _ _ _ _ _ _ _ _ _ _ _ _ _ _ _ _ _ _ _ _ _ _ _ _ _ _ _ _ _ _ _ _ _ _ _ _ _ _ _ _ _ _ _ _ _ _ _ _ _ _ _ _ _ _ _ _ _ _ _ _ _ _ _ _ _ _ _ _ _ _ _ _ _ _ _ _ _ wr HD.out

end

end Go.Proofs.Ytcfoobhihhndjaa
