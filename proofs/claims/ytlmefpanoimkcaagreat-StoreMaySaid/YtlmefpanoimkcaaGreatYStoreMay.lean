/-
  YStoreMay
-/
import Derived.Test.YtlmefpanoimkcaaGreatLst
import Derived.Test.YtlmefpanoimkcaaGreatCt
import Derived.Test.YtlmefpanoimkcaaGreatRmy
import Derived.Test.YtlmefpanoimkcaaGreatPkBD
import Derived.ShutString
set_option maxHeartbeats 4000000
set_option maxRecDepth 100000
namespace Go.Proofs.YtlmefpanoimkcaaGreat
open Go.RowKit Go.Proofs.YtlmefpanoimkcaaGreat.V
theorem getD_ext {α : Type} {d : α} : ∀ {l m : List α}, l.length = m.length → (∀ j, j < l.length → l.getD j d = m.getD j d) → l = m := fun {l m} h1 h2 => by
 apply List.ext_getElem h1
 intro i hi hj
 have := h2 i hi
 simpa [List.getD, hi, hj] using this
theorem refEqMessage_calls (m x : MsgV) (w : World) : Calls Tryz.prog 68 #[.agg (msgC m).toArray, .agg (msgC x).toArray] w fun e w' => e = .returned (.bool (eqMsgB m x)) ∧ Turn [] w w' := by
 obtain ⟨a0, a1, a2, a3, a4, a5⟩ := m
 obtain ⟨b0, b1, b2, b3, b4, b5⟩ := x
 obtain ⟨ans, ha⟩ := ε (eqMsgB ⟨a0, a1, a2, a3, a4, a5⟩ ⟨b0, b1, b2, b3, b4, b5⟩)
 have HA : Hid (ans = (decide (a0 = b0) && (decide (a1 = b1) && (decide (a2 = b2) && (decide (a3 = b3) && (decide (a4 = b4) && decide (a5 = b5))))))) := η ha
 rw [← ha]
 have T0 := η ((Turn.alloc [] w (.cells #[.int .i64 a0, .string a1, .string a2, .int .i64 a3, .int .i64 a4, .int .i64 a5] 49)).trans (Turn.alloc [] _ (.cells #[.int .i64 b0, .string b1, .string b2, .int .i64 b3, .int .i64 b4, .int .i64 b5] 49)))
 rw [show (msgC ⟨a0, a1, a2, a3, a4, a5⟩).toArray = #[.int .i64 a0, .string a1, .string a2, .int .i64 a3, .int .i64 a4, .int .i64 a5] from rfl, show (msgC ⟨b0, b1, b2, b3, b4, b5⟩).toArray = #[.int .i64 b0, .string b1, .string b2, .int .i64 b3, .int .i64 b4, .int .i64 b5] from rfl]
 clear ha
 go_enter Tryz.func68, Tryz.ntmps68
 by_cases h0 : a0 = b0
 case neg =>
  have n0 : (a0 == b0) = false := by simpa using h0
  have HF : Hid (ans = false) := η (by rw [HA.out]; simp [h0])
  clear HA h0
  go_wp2_with fail
  go_ret
  exact ⟨ret_bool HF.out.symm, T0.out⟩
 subst h0
 by_cases h1 : a1 = b1
 case neg =>
  have n1 := txt_ne h1
  have HF : Hid (ans = false) := η (by rw [HA.out]; simp [h1])
  clear HA h1
  go_wp2_with fail
  go_ret
  exact ⟨ret_bool HF.out.symm, T0.out⟩
 subst h1
 by_cases h2 : a2 = b2
 case neg =>
  have n2 := txt_ne h2
  have HF : Hid (ans = false) := η (by rw [HA.out]; simp [h2])
  clear HA h2
  go_wp2_with fail
  go_ret
  exact ⟨ret_bool HF.out.symm, T0.out⟩
 subst h2
 by_cases h3 : a3 = b3
 case neg =>
  have n3 : (a3 == b3) = false := by simpa using h3
  have HF : Hid (ans = false) := η (by rw [HA.out]; simp [h3])
  clear HA h3
  go_wp2_with fail
  go_ret
  exact ⟨ret_bool HF.out.symm, T0.out⟩
 subst h3
 by_cases h4 : a4 = b4
 case neg =>
  have n4 : (a4 == b4) = false := by simpa using h4
  have HF : Hid (ans = false) := η (by rw [HA.out]; simp [h4])
  clear HA h4
  go_wp2_with fail
  go_ret
  exact ⟨ret_bool HF.out.symm, T0.out⟩
 subst h4
 by_cases h5 : a5 = b5
 case neg =>
  have n5 : (a5 == b5) = false := by simpa using h5
  have HF : Hid (ans = false) := η (by rw [HA.out]; simp [h5])
  clear HA h5
  go_wp2_with fail
  go_ret
  exact ⟨ret_bool HF.out.symm, T0.out⟩
 subst h5
 have HF : Hid (ans = true) := η (by rw [HA.out]; simp)
 clear HA
 go_wp2_with fail
 go_ret
 exact ⟨ret_bool (by rw [HF.out]), T0.out⟩
theorem refEqInts_calls {w : World} {ao bo : Option Addr} {c d : Nat} {l m : List Int} (h : Il w ao c l) (g : Il w bo d m) : Calls Tryz.prog 129 #[.slice ao l.length c, .slice bo m.length d] w fun e w' => e = .returned (.bool (decide (l = m))) ∧ Turn [] w w' := by
 have hlen := h.len
 have glen := g.len
 have H := η h
 have G := η g
 obtain ⟨ans, ha⟩ := ε (decide (l = m))
 have HA := η ha
 rw [← ha]
 clear h g ha
 go_enter Tryz.func129, Tryz.ntmps129
 by_cases hl : l.length = m.length
 case neg =>
  have n0 : ((l.length : Int) != (m.length : Int)) = true := by simp; omega
  have n1 : (l.length == m.length) = false := by simpa using hl
  have HF : Hid (ans = false) := η (by rw [HA.out]; exact decide_eq_false (fun e => hl (by rw [e])))
  clear HA
  go_wp2_with fail
  go_ret
  exact ⟨ret_bool HF.out.symm, Turn.refl _ _⟩
 obtain ⟨n, hn⟩ := ε l.length
 have HN : Hid (n = l.length ∧ n = m.length) := η ⟨hn, by rw [hn, hl]⟩
 rw [← hl, ← hn]
 rw [← hn] at hlen
 clear hl hn glen
 go_wp2_with fail
 go_loopw [5] (fun vi wx => ∃ k : Nat, k ≤ n ∧ vi = .int .i64 (k : Int) ∧ (∀ j, j < k → l.getD j 0 = m.getD j 0) ∧ Turn [] w wx) (fun vi _ => n - (intOf vi).toNat)
 case atStart => exact ⟨0, by omega, rfl, fun j hj => by omega, Turn.refl _ _⟩
 case round =>
  obtain ⟨k, hk, rfl, hall, ht⟩ := hrel
  have HT := η ht
  have HL := η hall
  clear ht hall
  by_cases hkn : k < n
  · obtain ⟨gb, off, rfl, -, hat⟩ := (H.out.turn HT.out).at (by intro e; have := HN.out.1; rw [e] at this; simp at this; omega)
    obtain ⟨gb2, off2, rfl, -, hat2⟩ := (G.out.turn HT.out).at (by intro e; have := HN.out.2; rw [e] at this; simp at this; omega)
    have q1 := hat k (by rw [← HN.out.1]; exact hkn)
    have q2 := hat2 k (by rw [← HN.out.2]; exact hkn)
    have hb : 0 ≤ (k : Int) ∧ (k : Int) < (n : Int) := by omega
    clear hat hat2
    by_cases hxy : l.getD k 0 = m.getD k 0
    · have HX : Hid (∀ j, j < k + 1 → l.getD j 0 = m.getD j 0) := η (fun j hj => by
       by_cases e : j = k
       · rw [e]; exact hxy
       · exact HL.out j (by omega))
      rw [← hxy] at q2
      obtain ⟨y, hy⟩ := ε (l.getD k 0)
      rw [← hy] at q1 q2
      clear hxy hy HL
      go_wp2_with fail
      go_quiet (fail)
      go_wp2_with fail
      go_roundw
      case rel => exact ⟨k + 1, by omega, by go_num, HX.out, HT.out.trans (Turn.drewN [] _ _)⟩
      case measure => simp [intOf]; omega
    · have HF : Hid (ans = false) := η (by rw [HA.out]; exact decide_eq_false (fun e => hxy (by rw [e])))
      obtain ⟨y, hy⟩ := ε (l.getD k 0)
      obtain ⟨z, hz⟩ := ε (m.getD k 0)
      rw [← hy] at q1 hxy
      rw [← hz] at q2 hxy
      have hne : (y == z) = false := by simpa using hxy
      have hne2 : (y != z) = true := by simpa using hxy
      clear hy hz hxy HL
      go_wp2_with fail
      go_quiet (fail)
      go_wp2_with fail
      go_ret
      exact ⟨ret_bool HF.out.symm, HT.out.trans (Turn.drewN [] _ _)⟩
  · have hkk : k = n := by omega
    have HF : Hid (ans = true) := η (by
     rw [HA.out]
     exact decide_eq_true (getD_ext (d := 0) (by rw [← HN.out.1, ← HN.out.2]) (fun j hj => HL.out j (by rw [hkk, HN.out.1]; exact hj))))
    clear HL
    go_wp2_with fail
    go_ret
    exact ⟨ret_bool HF.out.symm, HT.out⟩
theorem refEqPuts_calls {w : World} {ao bo : Option Addr} {c d : Nat} {l m : List (ByteArray × ByteArray)} (h : Ps w ao c l) (g : Ps w bo d m) : Calls Tryz.prog 69 #[.slice ao l.length c, .slice bo m.length d] w fun e w' => e = .returned (.bool (decide (l = m))) ∧ Turn [] w w' := by
 have hlen := h.len
 have glen := g.len
 have H := η h
 have G := η g
 obtain ⟨ans, ha⟩ := ε (decide (l = m))
 have HA := η ha
 rw [← ha]
 clear h g ha
 go_enter Tryz.func69, Tryz.ntmps69
 by_cases hl : l.length = m.length
 case neg =>
  have n0 : ((l.length : Int) != (m.length : Int)) = true := by simp; omega
  have n1 : (l.length == m.length) = false := by simpa using hl
  have HF : Hid (ans = false) := η (by rw [HA.out]; exact decide_eq_false (fun e => hl (by rw [e])))
  clear HA
  go_wp2_with fail
  go_ret
  exact ⟨ret_bool HF.out.symm, Turn.refl _ _⟩
 obtain ⟨n, hn⟩ := ε l.length
 have HN : Hid (n = l.length ∧ n = m.length) := η ⟨hn, by rw [hn, hl]⟩
 rw [← hl, ← hn]
 rw [← hn] at hlen
 clear hl hn glen
 go_wp2_with fail
 go_loopw [5] (fun vi wx => ∃ k : Nat, k ≤ n ∧ vi = .int .i64 (k : Int) ∧ (∀ j, j < k → l.getD j putNone = m.getD j putNone) ∧ Turn [] w wx) (fun vi _ => n - (intOf vi).toNat)
 case atStart => exact ⟨0, by omega, rfl, fun j hj => by omega, Turn.refl _ _⟩
 case round =>
  obtain ⟨k, hk, rfl, hall, ht⟩ := hrel
  have HT := η ht
  have HL := η hall
  clear ht hall
  by_cases hkn : k < n
  · obtain ⟨gb, off, rfl, -, hat⟩ := (H.out.turn HT.out).at (by intro e; have := HN.out.1; rw [e] at this; simp at this; omega)
    obtain ⟨gb2, off2, rfl, -, hat2⟩ := (G.out.turn HT.out).at (by intro e; have := HN.out.2; rw [e] at this; simp at this; omega)
    obtain ⟨q1, q2, -, -⟩ := hat k (by rw [← HN.out.1]; exact hkn)
    obtain ⟨p1, p2, -, -⟩ := hat2 k (by rw [← HN.out.2]; exact hkn)
    have hb : 0 ≤ (k : Int) ∧ (k : Int) < (n : Int) := by omega
    obtain ⟨x, hx⟩ := ε (l.getD k putNone)
    obtain ⟨z, hz⟩ := ε (m.getD k putNone)
    rw [← hx] at q1 q2
    rw [← hz] at p1 p2
    have HXZ : Hid (x = z → ∀ j, j < k + 1 → l.getD j putNone = m.getD j putNone) := η (fun hxz j hj => by
     by_cases e : j = k
     · rw [e, ← hx, ← hz]; exact hxz
     · exact HL.out j (by omega))
    have HNF : Hid (x ≠ z → ans = false) := η (fun hne => by rw [HA.out]; exact decide_eq_false (fun e => hne (by rw [hx, hz, e])))
    clear hat hat2 hx hz HL
    obtain ⟨x1, x2⟩ := x
    obtain ⟨z1, z2⟩ := z
    dsimp only at q1 q2 p1 p2
    by_cases h1 : x1 = z1
    · subst h1
      by_cases h2 : x2 = z2
      · subst h2
        have HX := η (HXZ.out rfl)
        clear HXZ HNF
        go_wp2_with fail
        go_quiet (fail)
        go_wp2_with fail
        go_roundw
        case rel => exact ⟨k + 1, by omega, by go_num, HX.out, HT.out.trans (Turn.drewN [] _ _)⟩
        case measure => simp [intOf]; omega
      · have HF := η (HNF.out (by simp [h2]))
        have n2 := txt_ne h2
        clear HXZ HNF h2
        go_wp2_with fail
        go_quiet (fail)
        go_wp2_with fail
        go_ret
        exact ⟨ret_bool HF.out.symm, HT.out.trans (Turn.drewN [] _ _)⟩
    · have HF := η (HNF.out (by simp [h1]))
      have n1 := txt_ne h1
      clear HXZ HNF h1
      go_wp2_with fail
      go_quiet (fail)
      go_wp2_with fail
      go_ret
      exact ⟨ret_bool HF.out.symm, HT.out.trans (Turn.drewN [] _ _)⟩
  · have hkk : k = n := by omega
    have HF : Hid (ans = true) := η (by
     rw [HA.out]
     exact decide_eq_true (getD_ext (d := putNone) (by rw [← HN.out.1, ← HN.out.2]) (fun j hj => HL.out j (by rw [hkk, HN.out.1]; exact hj))))
    clear HL
    go_wp2_with fail
    go_ret
    exact ⟨ret_bool HF.out.symm, HT.out⟩
end Go.Proofs.YtlmefpanoimkcaaGreat
set_option maxHeartbeats 4000000
set_option maxRecDepth 100000
namespace Go.Proofs.YtlmefpanoimkcaaGreat
open Go.RowKit Go.Proofs.YtlmefpanoimkcaaGreat.V
theorem refEqPends_calls {w : World} {ao bo : Option Addr} {c d : Nat} {l m : List PendV} (h : Pds w ao c l) (g : Pds w bo d m) : Calls Tryz.prog 67 #[.slice ao l.length c, .slice bo m.length d] w fun e w' => e = .returned (.bool (decide (l = m))) ∧ Turn [] w w' := by
 have hlen := h.len
 have glen := g.len
 obtain ⟨LA, hLA, hTA, hIA⟩ := h
 obtain ⟨LB, hLB, hTB, hIB⟩ := g
 have H := η hTA
 have G := η hTB
 have HI := η hIA
 have GI := η hIB
 have HLA := η hLA
 have HLB := η hLB
 obtain ⟨ans, ha⟩ := ε (decide (l = m))
 have HA := η ha
 rw [← ha]
 clear hLA hTA hIA hLB hTB hIB ha
 go_enter Tryz.func67, Tryz.ntmps67
 by_cases hl : l.length = m.length
 case neg =>
  have n0 : ((l.length : Int) != (m.length : Int)) = true := by simp; omega
  have n1 : (l.length == m.length) = false := by simpa using hl
  have HF : Hid (ans = false) := η (by rw [HA.out]; exact decide_eq_false (fun e => hl (by rw [e])))
  clear HA
  go_wp2_with fail
  go_ret
  exact ⟨ret_bool HF.out.symm, Turn.refl _ _⟩
 obtain ⟨n, hn⟩ := ε l.length
 have HN : Hid (n = l.length ∧ n = m.length ∧ n = LA.length ∧ n = LB.length) := η ⟨hn, by rw [hn, hl], by rw [hn, ← HLA.out, List.length_map], by rw [hn, hl, ← HLB.out, List.length_map]⟩
 rw [← hl, ← hn]
 rw [← hn] at hlen
 clear hl hn glen
 go_wp2_with fail
 go_loopw [5] (fun vi wx => ∃ k : Nat, k ≤ n ∧ vi = .int .i64 (k : Int) ∧ (∀ j, j < k → l[j]? = m[j]?) ∧ Turn [] w wx) (fun vi _ => n - (intOf vi).toNat)
 case atStart => exact ⟨0, by omega, rfl, fun j hj => by omega, Turn.refl _ _⟩
 case round =>
  obtain ⟨k, hk, rfl, hall, ht⟩ := hrel
  have HT := η ht
  have HL := η hall
  clear ht hall
  by_cases hkn : k < n
  · obtain ⟨x, hx⟩ : ∃ x, LA[k]? = some x := ⟨_, List.getElem?_eq_getElem (by rw [← HN.out.2.2.1]; exact hkn)⟩
    obtain ⟨z, hz⟩ : ∃ z, LB[k]? = some z := ⟨_, List.getElem?_eq_getElem (by rw [← HN.out.2.2.2]; exact hkn)⟩
    have hlx : l[k]? = some x.v := by rw [← HLA.out, List.getElem?_map, hx]; rfl
    have hmz : m[k]? = some z.v := by rw [← HLB.out, List.getElem?_map, hz]; rfl
    obtain ⟨g1, o1, rfl, hat⟩ := (H.out.still HT.out).at hx
    obtain ⟨g2, o2, rfl, hat2⟩ := (G.out.still HT.out).at hz
    have q0 := hat 0 (.int .i64 x.v.tid) rfl
    have q1 := hat 1 (.slice x.ao x.v.parts.length x.c) rfl
    have p0 := hat2 0 (.int .i64 z.v.tid) rfl
    have p1 := hat2 1 (.slice z.ao z.v.parts.length z.c) rfl
    rw [Nat.add_zero] at q0 p0
    have hb : 0 ≤ (k : Int) ∧ (k : Int) < (n : Int) := by omega
    have HXZ : Hid (x.v = z.v → ∀ j, j < k + 1 → l[j]? = m[j]?) := η (fun hxz j hj => by
     by_cases e : j = k
     · rw [e, hlx, hmz, hxz]
     · exact HL.out j (by omega))
    have HNF : Hid (x.v ≠ z.v → ans = false) := η (fun hne => by
     rw [HA.out]
     exact decide_eq_false (fun e => hne (by rw [e, hmz] at hlx; exact (Option.some.inj hlx).symm)))
    have CI := fun wx (t : Turn [] w wx) => refEqInts_calls ((HI.out x (List.mem_of_getElem? hx)).turn t) ((GI.out z (List.mem_of_getElem? hz)).turn t)
    obtain ⟨⟨xt, xp⟩, xa, xc⟩ := x
    obtain ⟨⟨zt, zp⟩, za, zc⟩ := z
    dsimp only at q0 q1 p0 p1 HXZ HNF CI
    obtain ⟨nx, hnx⟩ := ε xp.length
    obtain ⟨nz, hnz⟩ := ε zp.length
    obtain ⟨eb, heb⟩ := ε (decide (xp = zp))
    rw [← hnx] at q1
    rw [← hnz] at p1
    rw [← hnx, ← hnz, ← heb] at CI
    have HEB := η heb
    have C1 := η CI
    clear hat hat2 hx hz HL hlx hmz CI hnx hnz heb
    by_cases h1 : xt = zt
    · subst h1
      go_upto_region 6 with fail
      have HSX : Hid (∀ x, Turn [] wr x → x.cell? ⟨g1, o1 + k * 2, none⟩ = some (.int .i64 xt) ∧ x.cell? ⟨g1, o1 + k * 2 + 1, none⟩ = some (.slice xa nx xc) ∧ x.cell? ⟨g2, o2 + k * 2, none⟩ = some (.int .i64 xt) ∧ x.cell? ⟨g2, o2 + k * 2 + 1, none⟩ = some (.slice za nz zc)) := η (fun x t => ⟨t.cell q0, t.cell q1, t.cell p0, t.cell p1⟩)
      clear q0 q1 p0 p1
      have TD := η (Turn.drew [] wr)
      refine Ph.start [] (fun x => x.cell? ⟨g1, o1 + k * 2, none⟩ = some (.int .i64 xt) ∧ x.cell? ⟨g1, o1 + k * 2 + 1, none⟩ = some (.slice xa nx xc) ∧ x.cell? ⟨g2, o2 + k * 2, none⟩ = some (.int .i64 xt) ∧ x.cell? ⟨g2, o2 + k * 2 + 1, none⟩ = some (.slice za nz zc)) (by kernel_rfl) (HSX.out _ TD.out) ?_
      intro hS
      refine Ph.tq 0 (some 17) hS ?_
      simp only [Act.put, σa, σz, σs]
      refine Ph.tq 1 (some 18) hS ?_
      simp only [Act.put, σa, σz, σs]
      refine Ph.tq 2 (some 19) hS ?_
      simp only [Act.put, σa, σz, σs]
      refine Ph.tq 3 (some 20) hS ?_
      simp only [Act.put, σa, σz, σs]
      refine Ph.tq 4 (some 21) hS ?_
      simp only [Act.put, σa, σz, σs]
      refine Ph.tq 5 (some 22) hS ?_
      simp only [Act.put, σa, σz, σs]
      refine Ph.tq 6 (some 23) hS ?_
      simp only [Act.put, σa, σz, σs]
      refine Ph.tq 7 (some 24) hS ?_
      simp only [Act.put, σa, σz, σs]
      refine Ph.tq 8 (some 25) hS ?_
      simp only [Act.put, σa, σz, σs]
      refine Ph.tq 9 (some 26) hS ?_
      simp only [Act.put, σa, σz, σs]
      refine Ph.tq 10 (some 27) hS ?_
      simp only [Act.put, σa, σz, σs]
      refine Ph.tq 11 (some 28) hS ?_
      simp only [Act.put, σa, σz, σs]
      refine Ph.tq 12 (some 29) hS ?_
      simp only [Act.put, σa, σz, σs]
      refine Ph.tq 13 (some 30) hS ?_
      simp only [Act.put, σa, σz, σs]
      refine Ph.tq 14 (some 31) hS ?_
      simp only [Act.put, σa, σz, σs]
      refine Ph.tq 15 (some 32) hS ?_
      simp only [Act.put, σa, σz, σs]
      refine Ph.tq 16 (some 33) hS ?_
      simp only [Act.put, σa, σz, σs]
      refine Ph.tq 17 (some 34) hS ?_
      simp only [Act.put, σa, σz, σs]
      refine Ph.tq 18 (some 35) hS ?_
      simp only [Act.put, σa, σz, σs]
      refine Ph.tq 19 (some 36) hS ?_
      simp only [Act.put, σa, σz, σs]
      refine Ph.tq 20 (some 37) hS ?_
      simp only [Act.put, σa, σz, σs]
      refine Ph.tq 21 (some 38) hS ?_
      simp only [Act.put, σa, σz, σs]
      refine Ph.one (i := 22) (by kernel_rfl) rfl ?_
      intro K hK
      rw [if_pos (by rfl)]
      go_simp
      refine (C1.out _ (HT.out.trans TD.out)).mono ?_
      rintro e x6 ⟨rfl, t6⟩
      have T6 := η (TD.out.trans t6)
      refine hK _ _ (HSX.out _ T6.out) (fun hS6 => ?_)
      clear hK K C1 hS t6
      cases eb with
      | true =>
       have hpz : xp = zp := by have := HEB.out; exact of_decide_eq_true this.symm
       subst hpz
       have HX := η (HXZ.out rfl)
       clear HXZ HNF
       refine Ph.tq 23 (some 40) hS6 ?_
       simp only [Act.put, σa, σz, σs]
       refine Ph.one (i := 24) (by kernel_rfl) rfl ?_
       intro K hK
       rw [if_pos (by rfl)]
       go_simp
       refine hK _ _ (HSX.out _ T6.out) (fun _ => Ph.done (by kernel_rfl) ?_ _)
       clear hK K hS6
       go_wp2_with fail
       go_roundw
       case rel => exact ⟨k + 1, by omega, by go_num, HX.out, HT.out.trans T6.out⟩
       case measure => simp [intOf]; omega
      | false =>
       have HF := η (HNF.out (by have := HEB.out; intro e; injection e with e1 e2; exact absurd e2 (of_decide_eq_false this.symm)))
       clear HXZ HNF
       refine Ph.tq 23 (some 40) hS6 ?_
       simp only [Act.put, σa, σz, σs]
       refine Ph.one (i := 24) (by kernel_rfl) rfl ?_
       intro K hK
       rw [if_pos (by rfl)]
       go_simp
       refine hK _ _ (HSX.out _ T6.out) (fun _ => Ph.done (by kernel_rfl) ?_ _)
       clear hK K hS6
       go_wp2_with fail
       go_ret
       exact ⟨ret_bool HF.out.symm, HT.out.trans T6.out⟩
    · have HF := η (HNF.out (by simp [h1]))
      have n1 : (xt == zt) = false := by simpa using h1
      have n2 : (xt != zt) = true := by simpa using h1
      clear HXZ HNF h1 C1
      go_wp2_with fail
      go_quiet (fail)
      go_wp2_with fail
      go_ret
      exact ⟨ret_bool HF.out.symm, HT.out.trans (Turn.drewN [] _ _)⟩
  · have hkk : k = n := by omega
    have HF : Hid (ans = true) := η (by
     rw [HA.out]
     refine decide_eq_true (List.ext_getElem? fun j => ?_)
     by_cases hj : j < n
     · exact HL.out j (by omega)
     · rw [List.getElem?_eq_none (by rw [← HN.out.1]; omega), List.getElem?_eq_none (by rw [← HN.out.2.1]; omega)])
    clear HL
    go_wp2_with fail
    go_ret
    exact ⟨ret_bool HF.out.symm, HT.out⟩
end Go.Proofs.YtlmefpanoimkcaaGreat
set_option maxHeartbeats 8000000
set_option maxRecDepth 100000
namespace Go.Proofs.YtlmefpanoimkcaaGreat
open Go.RowKit Go.Proofs.YtlmefpanoimkcaaGreat.V
theorem box2 (w x : World) (cs ds : Array Value) (T : TypeId) (t : Turn [] ((w.alloc (.cells cs T)).alloc (.cells ds T)) x) : x.heap[w.heap.size]? = some (.cells cs T) ∧ x.heap[w.heap.size + 1]? = some (.cells ds T) := by
 refine ⟨t.heap ((Turn.alloc [] _ _).heap (heap_alloc_new w _)), t.heap ?_⟩
 have := heap_alloc_new (w.alloc (.cells cs T)) (.cells ds T)
 rwa [show (w.alloc (.cells cs T)).heap.size = w.heap.size + 1 by simp] at this
theorem refEq_calls {w : World} {a b : Ads} {s u : StV} (h : StIs w a s) (g : StIs w b u) : Calls Tryz.prog 21 #[.agg (s.cells a), .agg (u.cells b)] w fun e w' => e = .returned (.bool (eqStB s u)) ∧ Turn [] w w' := by
 obtain ⟨ans, ha⟩ := ε (eqStB s u)
 have HA : Hid (ans = true ↔ s = u) := η (by rw [ha]; exact eqStB_iff s u)
 rw [← ha]
 clear ha
 have HS := η h
 have GS := η g
 have l1 := h.ms.len
 have l2 := h.waits.len
 have l3 := h.ends.len
 have l4 := h.open_.len
 have l5 := h.noes.len
 have C1 := η (fun wx (t : Turn [] w wx) => refEqPends_calls (h.still t).open_ (g.still t).open_)
 have C2 := η (fun wx (t : Turn [] w wx) => refEqPends_calls (h.still t).noes (g.still t).noes)
 obtain ⟨xm, xcm, xw, xcw, xe, xce, xo, xco, xn, xcn⟩ := a
 obtain ⟨ym, ycm, yw, ycw, ye, yce, yo, yco, yn, ycn⟩ := b
 obtain ⟨a0, a1, a2, a3, am, aw, ae, ao, an⟩ := s
 obtain ⟨b0, b1, b2, b3, bm, bw, be, bo, bn⟩ := u
 unfold StV.cells
 dsimp only at *
 obtain ⟨p1, hp1⟩ := ε (decide (ao = bo))
 obtain ⟨p2, hp2⟩ := ε (decide (an = bn))
 rw [← hp1] at C1
 rw [← hp2] at C2
 have HP1 := η hp1
 have HP2 := η hp2
 obtain ⟨nam, hnam⟩ := ε am.length
 obtain ⟨naw, hnaw⟩ := ε aw.length
 obtain ⟨nae, hnae⟩ := ε ae.length
 obtain ⟨nao, hnao⟩ := ε ao.length
 obtain ⟨nan, hnan⟩ := ε an.length
 obtain ⟨nbm, hnbm⟩ := ε bm.length
 obtain ⟨nbw, hnbw⟩ := ε bw.length
 obtain ⟨nbe, hnbe⟩ := ε be.length
 obtain ⟨nbo, hnbo⟩ := ε bo.length
 obtain ⟨nbn, hnbn⟩ := ε bn.length
 rw [← hnao, ← hnbo] at C1
 rw [← hnan, ← hnbn] at C2
 rw [← hnam] at l1
 rw [← hnaw] at l2
 rw [← hnae] at l3
 rw [← hnam, ← hnaw, ← hnae, ← hnao, ← hnan, ← hnbm, ← hnbw, ← hnbe, ← hnbo, ← hnbn]
 have HNM := η (And.intro hnam hnbm)
 have HNW := η (And.intro hnaw hnbw)
 have HNE := η (And.intro hnae hnbe)
 clear h g l4 l5 hp1 hp2 hnam hnaw hnae hnao hnan hnbm hnbw hnbe hnbo hnbn
 have T0 := η ((Turn.alloc [] w (.cells #[.int .i64 a0, .int .i64 a1, .int .i64 a2, .int .i64 a3, .slice xm nam xcm, .slice xw naw xcw, .slice xe nae xce, .slice xo nao xco, .slice xn nan xcn] 27)).trans (Turn.alloc [] _ (.cells #[.int .i64 b0, .int .i64 b1, .int .i64 b2, .int .i64 b3, .slice ym nbm ycm, .slice yw nbw ycw, .slice ye nbe yce, .slice yo nbo yco, .slice yn nbn ycn] 27)))
 have U0 := η (Turn.refl [] ((w.alloc (.cells #[.int .i64 a0, .int .i64 a1, .int .i64 a2, .int .i64 a3, .slice xm nam xcm, .slice xw naw xcw, .slice xe nae xce, .slice xo nao xco, .slice xn nan xcn] 27)).alloc (.cells #[.int .i64 b0, .int .i64 b1, .int .i64 b2, .int .i64 b3, .slice ym nbm ycm, .slice yw nbw ycw, .slice ye nbe yce, .slice yo nbo yco, .slice yn nbn ycn] 27)))
 have HSX : Hid (∀ x, Turn [] ((w.alloc (.cells #[.int .i64 a0, .int .i64 a1, .int .i64 a2, .int .i64 a3, .slice xm nam xcm, .slice xw naw xcw, .slice xe nae xce, .slice xo nao xco, .slice xn nan xcn] 27)).alloc (.cells #[.int .i64 b0, .int .i64 b1, .int .i64 b2, .int .i64 b3, .slice ym nbm ycm, .slice yw nbw ycw, .slice ye nbe yce, .slice yo nbo yco, .slice yn nbn ycn] 27)) x → x.cell? ⟨w.heap.size, 0, none⟩ = some (.int .i64 a0) ∧ x.cell? ⟨w.heap.size, 1, none⟩ = some (.int .i64 a1) ∧ x.cell? ⟨w.heap.size, 2, none⟩ = some (.int .i64 a2) ∧ x.cell? ⟨w.heap.size, 3, none⟩ = some (.int .i64 a3) ∧ x.cell? ⟨w.heap.size, 4, none⟩ = some (.slice xm nam xcm) ∧ x.cell? ⟨w.heap.size, 5, none⟩ = some (.slice xw naw xcw) ∧ x.cell? ⟨w.heap.size, 6, none⟩ = some (.slice xe nae xce) ∧ x.cell? ⟨w.heap.size, 7, none⟩ = some (.slice xo nao xco) ∧ x.cell? ⟨w.heap.size, 8, none⟩ = some (.slice xn nan xcn) ∧ x.cell? ⟨w.heap.size + 1, 0, none⟩ = some (.int .i64 b0) ∧ x.cell? ⟨w.heap.size + 1, 1, none⟩ = some (.int .i64 b1) ∧ x.cell? ⟨w.heap.size + 1, 2, none⟩ = some (.int .i64 b2) ∧ x.cell? ⟨w.heap.size + 1, 3, none⟩ = some (.int .i64 b3) ∧ x.cell? ⟨w.heap.size + 1, 4, none⟩ = some (.slice ym nbm ycm) ∧ x.cell? ⟨w.heap.size + 1, 5, none⟩ = some (.slice yw nbw ycw) ∧ x.cell? ⟨w.heap.size + 1, 6, none⟩ = some (.slice ye nbe yce) ∧ x.cell? ⟨w.heap.size + 1, 7, none⟩ = some (.slice yo nbo yco) ∧ x.cell? ⟨w.heap.size + 1, 8, none⟩ = some (.slice yn nbn ycn)) := η (fun x t => by
  obtain ⟨h1, h2⟩ := box2 w x _ _ _ t
  obtain ⟨c0, c1, c2, c3, c4, c5, c6, c7, c8⟩ := nine_of h1
  obtain ⟨d0, d1, d2, d3, d4, d5, d6, d7, d8⟩ := nine_of h2
  exact ⟨c0, c1, c2, c3, c4, c5, c6, c7, c8, d0, d1, d2, d3, d4, d5, d6, d7, d8⟩)
 obtain ⟨xb, hxb⟩ := ε (((w.alloc (.cells #[.int .i64 a0, .int .i64 a1, .int .i64 a2, .int .i64 a3, .slice xm nam xcm, .slice xw naw xcw, .slice xe nae xce, .slice xo nao xco, .slice xn nan xcn] 27)).alloc (.cells #[.int .i64 b0, .int .i64 b1, .int .i64 b2, .int .i64 b3, .slice ym nbm ycm, .slice yw nbw ycw, .slice ye nbe yce, .slice yo nbo yco, .slice yn nbn ycn] 27)))
 rw [← hxb] at T0 U0 HSX
 have HXB := η hxb
 clear hxb
 go_enter Tryz.func21, Tryz.ntmps21
 by_cases h0 : a0 = b0
 case neg =>
  have n0 : (a0 == b0) = false := by simpa using h0
  have HF : Hid (ans = false) := η (Bool.eq_false_iff.2 (fun e => by have := HA.out.1 e; injection this with e0 e1 e2 e3; exact h0 e0))
  clear HA
  go_wp2_with fail
  go_ret
  exact ⟨ret_bool HF.out.symm, by rw [HXB.out] at T0; exact T0.out⟩
 subst h0
 by_cases h1 : a1 = b1
 case neg =>
  have n1 : (a1 == b1) = false := by simpa using h1
  have HF : Hid (ans = false) := η (Bool.eq_false_iff.2 (fun e => by have := HA.out.1 e; injection this with e0 e1 e2 e3; exact h1 e1))
  clear HA
  go_wp2_with fail
  go_ret
  exact ⟨ret_bool HF.out.symm, by rw [HXB.out] at T0; exact T0.out⟩
 subst h1
 by_cases h2 : a2 = b2
 case neg =>
  have n2 : (a2 == b2) = false := by simpa using h2
  have HF : Hid (ans = false) := η (Bool.eq_false_iff.2 (fun e => by have := HA.out.1 e; injection this with e0 e1 e2 e3; exact h2 e2))
  clear HA
  go_wp2_with fail
  go_ret
  exact ⟨ret_bool HF.out.symm, by rw [HXB.out] at T0; exact T0.out⟩
 subst h2
 by_cases h3 : a3 = b3
 case neg =>
  have n3 : (a3 == b3) = false := by simpa using h3
  have HF : Hid (ans = false) := η (Bool.eq_false_iff.2 (fun e => by have := HA.out.1 e; injection this with e0 e1 e2 e3; exact h3 e3))
  clear HA
  go_wp2_with fail
  go_ret
  exact ⟨ret_bool HF.out.symm, by rw [HXB.out] at T0; exact T0.out⟩
 subst h3
 by_cases hm : nam = nbm
 case neg =>
  have nm : (nam == nbm) = false := by simpa using hm
  have mm : ((nam : Int) == (nbm : Int)) = false := by simp; omega
  have HF : Hid (ans = false) := η (Bool.eq_false_iff.2 (fun e => by have := HA.out.1 e; injection this with e0 e1 e2 e3 e4 e5 e6; exact hm (by rw [HNM.out.1, HNM.out.2, e4])))
  clear HA
  go_wp2_with fail
  go_ret
  exact ⟨ret_bool HF.out.symm, by rw [HXB.out] at T0; exact T0.out⟩
 subst hm
 by_cases hw : naw = nbw
 case neg =>
  have nw : (naw == nbw) = false := by simpa using hw
  have mw : ((naw : Int) == (nbw : Int)) = false := by simp; omega
  have HF : Hid (ans = false) := η (Bool.eq_false_iff.2 (fun e => by have := HA.out.1 e; injection this with e0 e1 e2 e3 e4 e5 e6; exact hw (by rw [HNW.out.1, HNW.out.2, e5])))
  clear HA
  go_wp2_with fail
  go_ret
  exact ⟨ret_bool HF.out.symm, by rw [HXB.out] at T0; exact T0.out⟩
 subst hw
 by_cases he : nae = nbe
 case neg =>
  have ne : (nae == nbe) = false := by simpa using he
  have me : ((nae : Int) == (nbe : Int)) = false := by simp; omega
  have HF : Hid (ans = false) := η (Bool.eq_false_iff.2 (fun e => by have := HA.out.1 e; injection this with e0 e1 e2 e3 e4 e5 e6; exact he (by rw [HNE.out.1, HNE.out.2, e6])))
  clear HA
  go_wp2_with fail
  go_ret
  exact ⟨ret_bool HF.out.symm, by rw [HXB.out] at T0; exact T0.out⟩
 subst he
 go_wp2_with fail
 rw [← HXB.out]
 clear HXB
 refine (C1.out _ T0.out).mono ?_
 rintro e x1 ⟨rfl, t1⟩
 have U1 := η (U0.out.trans t1)
 clear t1 C1
 obtain ⟨c0, c1, c2, c3, c4, c5, c6, c7, c8, d0, d1, d2, d3, d4, d5, d6, d7, d8⟩ := HSX.out _ U1.out
 cases p1 with
 | false =>
  have HF : Hid (ans = false) := η (Bool.eq_false_iff.2 (fun e => by have := HA.out.1 e; injection this with _ _ _ _ _ _ _ q7; exact absurd q7 (of_decide_eq_false HP1.out.symm)))
  clear HA
  go_wp2_with fail
  go_ret
  exact ⟨ret_bool HF.out.symm, T0.out.trans U1.out⟩
 | true =>
  have LO := η (of_decide_eq_true HP1.out.symm)
  go_wp2_with fail
  refine (C2.out _ (T0.out.trans U1.out)).mono ?_
  rintro e x2 ⟨rfl, t2⟩
  have U2 := η (U1.out.trans t2)
  clear t2 C2
  clear c0 c1 c2 c3 c4 c5 c6 c7 c8 d0 d1 d2 d3 d4 d5 d6 d7 d8
  cases p2 with
  | false =>
   have HF : Hid (ans = false) := η (Bool.eq_false_iff.2 (fun e => by have := HA.out.1 e; injection this with _ _ _ _ _ _ _ _ q8; exact absurd q8 (of_decide_eq_false HP2.out.symm)))
   clear HA
   go_wp2_with fail
   go_ret
   exact ⟨ret_bool HF.out.symm, T0.out.trans U2.out⟩
  | true =>
   have LN := η (of_decide_eq_true HP2.out.symm)
   clear HP1 HP2
   go_upto_region 4 with fail
   go_loopw [5] (fun vi wx => ∃ k : Nat, k ≤ nam ∧ vi = .int .i64 (k : Int) ∧ (∀ j, j < k → am[j]? = bm[j]?) ∧ Turn [] xb wx) (fun vi _ => nam - (intOf vi).toNat)
   case atStart => exact ⟨0, by omega, rfl, fun j hj => by omega, U2.out⟩
   case round =>
    obtain ⟨k, hk, rfl, hall, ht⟩ := hrel
    have HT := η ht
    have HL := η hall
    clear ht hall
    obtain ⟨c0, c1, c2, c3, c4, c5, c6, c7, c8, d0, d1, d2, d3, d4, d5, d6, d7, d8⟩ := HSX.out _ HT.out
    by_cases hkn : k < nam
    · obtain ⟨x, hlx⟩ : ∃ x, am[k]? = some x := ⟨_, List.getElem?_eq_getElem (by rw [← HNM.out.1]; exact hkn)⟩
      obtain ⟨z, hmz⟩ : ∃ z, bm[k]? = some z := ⟨_, List.getElem?_eq_getElem (by rw [← HNM.out.2]; exact hkn)⟩
      have hb : 0 ≤ (k : Int) ∧ (k : Int) < (nam : Int) := by omega
      obtain ⟨g1, o1, eg1, hat⟩ := (HS.out.still (T0.out.trans HT.out)).ms.at hlx
      obtain ⟨g2, o2, eg2, hat2⟩ := (GS.out.still (T0.out.trans HT.out)).ms.at hmz
      dsimp only at eg1 eg2
      have HXZ : Hid (x = z → ∀ j, j < k + 1 → am[j]? = bm[j]?) := η (fun hxz j hj => by
       by_cases e : j = k
       · rw [e, hlx, hmz, hxz]
       · exact HL.out j (by omega))
      have HNF : Hid (¬ x = z → ans = false) := η (fun hne => Bool.eq_false_iff.2 (fun e => by
       have e := HA.out.1 e
       injection e with _ _ _ _ q4 q5 q6
       refine hne ?_
       have : am = bm := by assumption
       rw [this, hmz] at hlx
       exact (Option.some.inj hlx).symm))
      have CM := η (fun wx => refEqMessage_calls x z wx)
      obtain ⟨p0, p1, p2, p3, p4, p5⟩ := x
      obtain ⟨q0, q1, q2, q3, q4, q5⟩ := z
      have r0 := hat 0 (.int .i64 p0) rfl
      have t0 := hat2 0 (.int .i64 q0) rfl
      have r1 := hat 1 (.string p1) rfl
      have t1 := hat2 1 (.string q1) rfl
      have r2 := hat 2 (.string p2) rfl
      have t2 := hat2 2 (.string q2) rfl
      have r3 := hat 3 (.int .i64 p3) rfl
      have t3 := hat2 3 (.int .i64 q3) rfl
      have r4 := hat 4 (.int .i64 p4) rfl
      have t4 := hat2 4 (.int .i64 q4) rfl
      have r5 := hat 5 (.int .i64 p5) rfl
      have t5 := hat2 5 (.int .i64 q5) rfl
      rw [Nat.add_zero] at r0 t0
      rw [eg1] at c4
      rw [eg2] at d4
      obtain ⟨eb, heb⟩ := ε (eqMsgB ⟨p0, p1, p2, p3, p4, p5⟩ ⟨q0, q1, q2, q3, q4, q5⟩)
      have HEB : Hid (eb = true ↔ (⟨p0, p1, p2, p3, p4, p5⟩ : MsgV) = ⟨q0, q1, q2, q3, q4, q5⟩) := η (by rw [heb]; exact eqMsgB_iff _ _)
      rw [← heb] at CM
      have HS6 : Hid (∀ x, Turn [] wr x → x.cell? ⟨w.heap.size, 4, none⟩ = some (.slice (some ⟨g1, o1, none⟩) nam xcm) ∧ x.cell? ⟨w.heap.size + 1, 4, none⟩ = some (.slice (some ⟨g2, o2, none⟩) nam ycm) ∧ x.cell? ⟨g1, o1 + k * 6, none⟩ = some (.int .i64 p0) ∧ x.cell? ⟨g1, o1 + k * 6 + 1, none⟩ = some (.string p1) ∧ x.cell? ⟨g1, o1 + k * 6 + 2, none⟩ = some (.string p2) ∧ x.cell? ⟨g1, o1 + k * 6 + 3, none⟩ = some (.int .i64 p3) ∧ x.cell? ⟨g1, o1 + k * 6 + 4, none⟩ = some (.int .i64 p4) ∧ x.cell? ⟨g1, o1 + k * 6 + 5, none⟩ = some (.int .i64 p5) ∧ x.cell? ⟨g2, o2 + k * 6, none⟩ = some (.int .i64 q0) ∧ x.cell? ⟨g2, o2 + k * 6 + 1, none⟩ = some (.string q1) ∧ x.cell? ⟨g2, o2 + k * 6 + 2, none⟩ = some (.string q2) ∧ x.cell? ⟨g2, o2 + k * 6 + 3, none⟩ = some (.int .i64 q3) ∧ x.cell? ⟨g2, o2 + k * 6 + 4, none⟩ = some (.int .i64 q4) ∧ x.cell? ⟨g2, o2 + k * 6 + 5, none⟩ = some (.int .i64 q5)) := η (fun x t => ⟨t.cell c4, t.cell d4, t.cell r0, t.cell r1, t.cell r2, t.cell r3, t.cell r4, t.cell r5, t.cell t0, t.cell t1, t.cell t2, t.cell t3, t.cell t4, t.cell t5⟩)
      clear hat hat2 hlx hmz heb HL r0 r1 r2 r3 r4 r5 t0 t1 t2 t3 t4 t5 d0 d1 d2 d3 d5 d6 d7 d8 c0 c1 c2 c3 c5 c6 c7 c8
      go_upto_region 6 with fail
      clear c4 d4
      have TD := η (Turn.drew [] wr)
      refine Ph.start [] (fun x => x.cell? ⟨w.heap.size, 4, none⟩ = some (.slice (some ⟨g1, o1, none⟩) nam xcm) ∧ x.cell? ⟨w.heap.size + 1, 4, none⟩ = some (.slice (some ⟨g2, o2, none⟩) nam ycm) ∧ x.cell? ⟨g1, o1 + k * 6, none⟩ = some (.int .i64 p0) ∧ x.cell? ⟨g1, o1 + k * 6 + 1, none⟩ = some (.string p1) ∧ x.cell? ⟨g1, o1 + k * 6 + 2, none⟩ = some (.string p2) ∧ x.cell? ⟨g1, o1 + k * 6 + 3, none⟩ = some (.int .i64 p3) ∧ x.cell? ⟨g1, o1 + k * 6 + 4, none⟩ = some (.int .i64 p4) ∧ x.cell? ⟨g1, o1 + k * 6 + 5, none⟩ = some (.int .i64 p5) ∧ x.cell? ⟨g2, o2 + k * 6, none⟩ = some (.int .i64 q0) ∧ x.cell? ⟨g2, o2 + k * 6 + 1, none⟩ = some (.string q1) ∧ x.cell? ⟨g2, o2 + k * 6 + 2, none⟩ = some (.string q2) ∧ x.cell? ⟨g2, o2 + k * 6 + 3, none⟩ = some (.int .i64 q3) ∧ x.cell? ⟨g2, o2 + k * 6 + 4, none⟩ = some (.int .i64 q4) ∧ x.cell? ⟨g2, o2 + k * 6 + 5, none⟩ = some (.int .i64 q5)) (by kernel_rfl) (HS6.out _ TD.out) ?_
      intro hS
      refine Ph.tq 0 (some 84) hS ?_
      simp only [Act.put, σa, σz, σs]
      refine Ph.tq 1 (some 85) hS ?_
      simp only [Act.put, σa, σz, σs]
      refine Ph.tq 2 (some 86) hS ?_
      simp only [Act.put, σa, σz, σs]
      refine Ph.tq 3 (some 87) hS ?_
      simp only [Act.put, σa, σz, σs]
      refine Ph.tq 4 (some 88) hS ?_
      simp only [Act.put, σa, σz, σs]
      refine Ph.tq 5 (some 89) hS ?_
      simp only [Act.put, σa, σz, σs]
      refine Ph.tq 6 (some 90) hS ?_
      simp only [Act.put, σa, σz, σs]
      refine Ph.tq 7 (some 91) hS ?_
      simp only [Act.put, σa, σz, σs]
      refine Ph.tq 8 (some 92) hS ?_
      simp only [Act.put, σa, σz, σs]
      refine Ph.tq 9 (some 93) hS ?_
      simp only [Act.put, σa, σz, σs]
      refine Ph.one (i := 10) (by kernel_rfl) rfl ?_
      intro K hK
      rw [if_pos (by rfl)]
      go_simp
      refine (CM.out _).mono ?_
      rintro e x6 ⟨rfl, t6⟩
      have T6 := η (TD.out.trans t6)
      refine hK _ _ (HS6.out _ T6.out) (fun hS6 => ?_)
      clear hK K CM hS t6
      cases eb with
      | true =>
       have HX := η (HXZ.out (HEB.out.1 rfl))
       clear HXZ HNF
       refine Ph.one (i := 11) (by kernel_rfl) rfl ?_
       intro K hK
       rw [if_pos (by rfl)]
       go_simp
       refine hK _ _ (HS6.out _ T6.out) (fun _ => Ph.done (by kernel_rfl) ?_ _)
       clear hK K hS6
       go_wp2_with fail
       go_roundw
       case rel => exact ⟨k + 1, by omega, by go_num, HX.out, HT.out.trans T6.out⟩
       case measure => simp [intOf]; omega
      | false =>
       have HF := η (HNF.out (fun e => by have := HEB.out.2 e; cases this))
       clear HXZ HNF
       refine Ph.one (i := 11) (by kernel_rfl) rfl ?_
       intro K hK
       rw [if_pos (by rfl)]
       go_simp
       refine hK _ _ (HS6.out _ T6.out) (fun _ => Ph.done (by kernel_rfl) ?_ _)
       clear hK K hS6
       go_wp2_with fail
       go_ret
       exact ⟨ret_bool HF.out.symm, T0.out.trans (HT.out.trans T6.out)⟩
    · have hkk : k = nam := by omega
      have Eam : Hid (am = bm) := η (List.ext_getElem? fun j => by
       by_cases hj : j < nam
       · exact HL.out j (by omega)
       · rw [List.getElem?_eq_none (by rw [← HNM.out.1]; omega), List.getElem?_eq_none (by rw [← HNM.out.2]; omega)])
      clear HL hkn hk
      subst hkk
      go_upto_region 9 with fail
      clear c0 c1 c2 c3 c4 c5 c6 c7 c8 d0 d1 d2 d3 d4 d5 d6 d7 d8
      go_loopw [6] (fun vi wx => ∃ k : Nat, k ≤ naw ∧ vi = .int .i64 (k : Int) ∧ (∀ j, j < k → aw[j]? = bw[j]?) ∧ Turn [] xb wx) (fun vi _ => naw - (intOf vi).toNat)
      case atStart => exact ⟨0, by omega, rfl, fun j hj => by omega, HT.out⟩
      case round =>
       obtain ⟨k, hk, rfl, hall, ht⟩ := hrel
       have HT := η ht
       have HL := η hall
       clear ht hall
       obtain ⟨c0, c1, c2, c3, c4, c5, c6, c7, c8, d0, d1, d2, d3, d4, d5, d6, d7, d8⟩ := HSX.out _ HT.out
       by_cases hkn : k < naw
       · obtain ⟨LA, hLA, hTA, hIA⟩ := (HS.out.still (T0.out.trans HT.out)).waits
         obtain ⟨LB, hLB, hTB, hIB⟩ := (GS.out.still (T0.out.trans HT.out)).waits
         dsimp only at hLA hLB hTA hTB
         have hna : LA.length = naw := by rw [HNW.out.1, ← hLA, List.length_map]
         have hnb : LB.length = naw := by rw [HNW.out.2, ← hLB, List.length_map]
         obtain ⟨x, hx⟩ : ∃ x, LA[k]? = some x := ⟨_, List.getElem?_eq_getElem (by omega)⟩
         obtain ⟨z, hz⟩ : ∃ z, LB[k]? = some z := ⟨_, List.getElem?_eq_getElem (by omega)⟩
         have hlx : aw[k]? = some x.v := by rw [← hLA, List.getElem?_map, hx]; rfl
         have hmz : bw[k]? = some z.v := by rw [← hLB, List.getElem?_map, hz]; rfl
         obtain ⟨g1, o1, eg1, hat⟩ := hTA.at hx
         obtain ⟨g2, o2, eg2, hat2⟩ := hTB.at hz
         have r0 := hat 0 (.int .i64 x.v.tid) rfl
         have r1 := hat 1 (.slice x.ao x.v.puts.length x.c) rfl
         have t0 := hat2 0 (.int .i64 z.v.tid) rfl
         have t1 := hat2 1 (.slice z.ao z.v.puts.length z.c) rfl
         rw [Nat.add_zero] at r0 t0
         have hb : 0 ≤ (k : Int) ∧ (k : Int) < (naw : Int) := by omega
         have HXZ : Hid (x.v = z.v → ∀ j, j < k + 1 → aw[j]? = bw[j]?) := η (fun hxz j hj => by
          by_cases e : j = k
          · rw [e, hlx, hmz, hxz]
          · exact HL.out j (by omega))
         have HNF : Hid (¬ x.v = z.v → ans = false) := η (fun hne => Bool.eq_false_iff.2 (fun e => by
          have e := HA.out.1 e
          injection e with _ _ _ _ q4 q5 q6
          refine hne ?_
          have : aw = bw := by assumption
          rw [this, hmz] at hlx
          exact (Option.some.inj hlx).symm))
         have CI := fun wx (t : Turn [] wr wx) => refEqPuts_calls ((hIA x (List.mem_of_getElem? hx)).turn t) ((hIB z (List.mem_of_getElem? hz)).turn t)
         clear hLA hTA hIA hLB hTB hIB hna hnb
         obtain ⟨⟨xt, xp⟩, xa, xc⟩ := x
         obtain ⟨⟨zt, zp⟩, za, zc⟩ := z
         dsimp only at r0 r1 t0 t1 HXZ HNF CI
         obtain ⟨nx, hnx⟩ := ε xp.length
         obtain ⟨nz, hnz⟩ := ε zp.length
         obtain ⟨eb, heb⟩ := ε (decide (xp = zp))
         rw [← hnx] at r1
         rw [← hnz] at t1
         rw [← hnx, ← hnz, ← heb] at CI
         have HEB := η heb
         have CI := η CI
         rw [eg1] at c5
         rw [eg2] at d5
         clear hat hat2 hx hz HL hlx hmz hnx hnz heb d0 d1 d2 d3 d4 d6 d7 d8 c0 c1 c2 c3 c4 c6 c7 c8
         by_cases h1 : xt = zt
         · subst h1
           have HS6 : Hid (∀ x, Turn [] wr x → x.cell? ⟨w.heap.size, 5, none⟩ = some (.slice (some ⟨g1, o1, none⟩) naw xcw) ∧ x.cell? ⟨w.heap.size + 1, 5, none⟩ = some (.slice (some ⟨g2, o2, none⟩) naw ycw) ∧ x.cell? ⟨g1, o1 + k * 2, none⟩ = some (.int .i64 xt) ∧ x.cell? ⟨g1, o1 + k * 2 + 1, none⟩ = some (.slice xa nx xc) ∧ x.cell? ⟨g2, o2 + k * 2, none⟩ = some (.int .i64 xt) ∧ x.cell? ⟨g2, o2 + k * 2 + 1, none⟩ = some (.slice za nz zc)) := η (fun x t => ⟨t.cell c5, t.cell d5, t.cell r0, t.cell r1, t.cell t0, t.cell t1⟩)
           clear r0 r1 t0 t1
           go_upto_region 11 with fail
           clear c5 d5
           have TD := η (Turn.drew [] wr)
           refine Ph.start [] (fun x => x.cell? ⟨w.heap.size, 5, none⟩ = some (.slice (some ⟨g1, o1, none⟩) naw xcw) ∧ x.cell? ⟨w.heap.size + 1, 5, none⟩ = some (.slice (some ⟨g2, o2, none⟩) naw ycw) ∧ x.cell? ⟨g1, o1 + k * 2, none⟩ = some (.int .i64 xt) ∧ x.cell? ⟨g1, o1 + k * 2 + 1, none⟩ = some (.slice xa nx xc) ∧ x.cell? ⟨g2, o2 + k * 2, none⟩ = some (.int .i64 xt) ∧ x.cell? ⟨g2, o2 + k * 2 + 1, none⟩ = some (.slice za nz zc)) (by kernel_rfl) (HS6.out _ TD.out) ?_
           intro hS
           refine Ph.tq 0 (some 103) hS ?_
           simp only [Act.put, σa, σz, σs]
           refine Ph.tq 1 (some 104) hS ?_
           simp only [Act.put, σa, σz, σs]
           refine Ph.tq 2 (some 105) hS ?_
           simp only [Act.put, σa, σz, σs]
           refine Ph.tq 3 (some 106) hS ?_
           simp only [Act.put, σa, σz, σs]
           refine Ph.tq 4 (some 107) hS ?_
           simp only [Act.put, σa, σz, σs]
           refine Ph.tq 5 (some 108) hS ?_
           simp only [Act.put, σa, σz, σs]
           refine Ph.tq 6 (some 109) hS ?_
           simp only [Act.put, σa, σz, σs]
           refine Ph.tq 7 (some 110) hS ?_
           simp only [Act.put, σa, σz, σs]
           refine Ph.tq 8 (some 111) hS ?_
           simp only [Act.put, σa, σz, σs]
           refine Ph.tq 9 (some 112) hS ?_
           simp only [Act.put, σa, σz, σs]
           refine Ph.tq 10 (some 113) hS ?_
           simp only [Act.put, σa, σz, σs]
           refine Ph.tq 11 (some 114) hS ?_
           simp only [Act.put, σa, σz, σs]
           refine Ph.tq 12 (some 115) hS ?_
           simp only [Act.put, σa, σz, σs]
           refine Ph.tq 13 (some 116) hS ?_
           simp only [Act.put, σa, σz, σs]
           refine Ph.tq 14 (some 117) hS ?_
           simp only [Act.put, σa, σz, σs]
           refine Ph.tq 15 (some 118) hS ?_
           simp only [Act.put, σa, σz, σs]
           refine Ph.tq 16 (some 119) hS ?_
           simp only [Act.put, σa, σz, σs]
           refine Ph.tq 17 (some 120) hS ?_
           simp only [Act.put, σa, σz, σs]
           refine Ph.tq 18 (some 121) hS ?_
           simp only [Act.put, σa, σz, σs]
           refine Ph.tq 19 (some 122) hS ?_
           simp only [Act.put, σa, σz, σs]
           refine Ph.tq 20 (some 123) hS ?_
           simp only [Act.put, σa, σz, σs]
           refine Ph.tq 21 (some 124) hS ?_
           simp only [Act.put, σa, σz, σs]
           refine Ph.tq 22 (some 125) hS ?_
           simp only [Act.put, σa, σz, σs]
           refine Ph.tq 23 (some 126) hS ?_
           simp only [Act.put, σa, σz, σs]
           refine Ph.tq 24 (some 127) hS ?_
           simp only [Act.put, σa, σz, σs]
           refine Ph.tq 25 (some 128) hS ?_
           simp only [Act.put, σa, σz, σs]
           refine Ph.one (i := 26) (by kernel_rfl) rfl ?_
           intro K hK
           rw [if_pos (by rfl)]
           go_simp
           refine (CI.out _ TD.out).mono ?_
           rintro e x6 ⟨rfl, t6⟩
           have T6 := η (TD.out.trans t6)
           refine hK _ _ (HS6.out _ T6.out) (fun hS6 => ?_)
           clear hK K CI hS t6
           cases eb with
           | true =>
            have hpz : xp = zp := of_decide_eq_true HEB.out.symm
            subst hpz
            have HX := η (HXZ.out rfl)
            clear HXZ HNF
            refine Ph.tq 27 (some 130) hS6 ?_
            simp only [Act.put, σa, σz, σs]
            refine Ph.one (i := 28) (by kernel_rfl) rfl ?_
            intro K hK
            rw [if_pos (by rfl)]
            go_simp
            refine hK _ _ (HS6.out _ T6.out) (fun _ => Ph.done (by kernel_rfl) ?_ _)
            clear hK K hS6
            go_wp2_with fail
            go_roundw
            case rel => exact ⟨k + 1, by omega, by go_num, HX.out, HT.out.trans T6.out⟩
            case measure => simp [intOf]; omega
           | false =>
            have HF := η (HNF.out (fun e => by injection e with e1 e2; exact absurd e2 (of_decide_eq_false HEB.out.symm)))
            clear HXZ HNF
            refine Ph.tq 27 (some 130) hS6 ?_
            simp only [Act.put, σa, σz, σs]
            refine Ph.one (i := 28) (by kernel_rfl) rfl ?_
            intro K hK
            rw [if_pos (by rfl)]
            go_simp
            refine hK _ _ (HS6.out _ T6.out) (fun _ => Ph.done (by kernel_rfl) ?_ _)
            clear hK K hS6
            go_wp2_with fail
            go_ret
            exact ⟨ret_bool HF.out.symm, T0.out.trans (HT.out.trans T6.out)⟩
         · have HF := η (HNF.out (by simp [h1]))
           have n1 : (xt == zt) = false := by simpa using h1
           have n2 : (xt != zt) = true := by simpa using h1
           clear HXZ HNF h1 CI
           go_wp2_with fail
           go_quiet (fail)
           go_wp2_with fail
           go_ret
           exact ⟨ret_bool HF.out.symm, T0.out.trans (HT.out.trans (Turn.drewN [] _ _))⟩
       · have hkk : k = naw := by omega
         have Eaw : Hid (aw = bw) := η (List.ext_getElem? fun j => by
          by_cases hj : j < naw
          · exact HL.out j (by omega)
          · rw [List.getElem?_eq_none (by rw [← HNW.out.1]; omega), List.getElem?_eq_none (by rw [← HNW.out.2]; omega)])
         clear HL hkn hk
         subst hkk
         go_upto_region 14 with fail
         clear c0 c1 c2 c3 c4 c5 c6 c7 c8 d0 d1 d2 d3 d4 d5 d6 d7 d8
         go_loopw [7] (fun vi wx => ∃ k : Nat, k ≤ nae ∧ vi = .int .i64 (k : Int) ∧ (∀ j, j < k → ae[j]? = be[j]?) ∧ Turn [] xb wx) (fun vi _ => nae - (intOf vi).toNat)
         case atStart => exact ⟨0, by omega, rfl, fun j hj => by omega, HT.out⟩
         case round =>
          obtain ⟨k, hk, rfl, hall, ht⟩ := hrel
          have HT := η ht
          have HL := η hall
          clear ht hall
          obtain ⟨c0, c1, c2, c3, c4, c5, c6, c7, c8, d0, d1, d2, d3, d4, d5, d6, d7, d8⟩ := HSX.out _ HT.out
          by_cases hkn : k < nae
          · obtain ⟨x, hlx⟩ : ∃ x, ae[k]? = some x := ⟨_, List.getElem?_eq_getElem (by rw [← HNE.out.1]; exact hkn)⟩
            obtain ⟨z, hmz⟩ : ∃ z, be[k]? = some z := ⟨_, List.getElem?_eq_getElem (by rw [← HNE.out.2]; exact hkn)⟩
            have hb : 0 ≤ (k : Int) ∧ (k : Int) < (nae : Int) := by omega
            obtain ⟨g1, o1, eg1, hat⟩ := (HS.out.still (T0.out.trans HT.out)).ends.at hlx
            obtain ⟨g2, o2, eg2, hat2⟩ := (GS.out.still (T0.out.trans HT.out)).ends.at hmz
            dsimp only at eg1 eg2
            have HXZ : Hid (x = z → ∀ j, j < k + 1 → ae[j]? = be[j]?) := η (fun hxz j hj => by
             by_cases e : j = k
             · rw [e, hlx, hmz, hxz]
             · exact HL.out j (by omega))
            have HNF : Hid (¬ x = z → ans = false) := η (fun hne => Bool.eq_false_iff.2 (fun e => by
             have e := HA.out.1 e
             injection e with _ _ _ _ q4 q5 q6
             refine hne ?_
             have : ae = be := by assumption
             rw [this, hmz] at hlx
             exact (Option.some.inj hlx).symm))
            obtain ⟨xt, xy⟩ := x
            obtain ⟨zt, zy⟩ := z
            have r0 := hat 0 (.int .i64 xt) rfl
            have r1 := hat 1 (.bool xy) rfl
            have t0 := hat2 0 (.int .i64 zt) rfl
            have t1 := hat2 1 (.bool zy) rfl
            rw [Nat.add_zero] at r0 t0
            rw [eg1] at c6
            rw [eg2] at d6
            clear hat hat2 hlx hmz HL d0 d1 d2 d3 d4 d5 d7 d8 c0 c1 c2 c3 c4 c5 c7 c8
            by_cases h1 : xt = zt
            · subst h1
              by_cases h2 : xy = zy
              · subst h2
                have HX := η (HXZ.out rfl)
                have nb : (xy != xy) = false := by simp
                have nb2 : (xy == xy) = true := by simp
                clear HXZ HNF
                go_wp2_with fail
                go_quiet (fail)
                go_wp2_with fail
                go_roundw
                case rel => exact ⟨k + 1, by omega, by go_num, HX.out, HT.out.trans (Turn.drewN [] _ _)⟩
                case measure => simp [intOf]; omega
              · have HF := η (HNF.out (by simp [h2]))
                have nb : (xy != zy) = true := by simpa using h2
                have nb2 : (xy == zy) = false := by simpa using h2
                clear HXZ HNF h2
                go_wp2_with fail
                go_quiet (fail)
                go_wp2_with fail
                go_ret
                exact ⟨ret_bool HF.out.symm, T0.out.trans (HT.out.trans (Turn.drewN [] _ _))⟩
            · have HF := η (HNF.out (by simp [h1]))
              have n1 : (xt == zt) = false := by simpa using h1
              have n2 : (xt != zt) = true := by simpa using h1
              clear HXZ HNF h1
              go_wp2_with fail
              go_quiet (fail)
              go_wp2_with fail
              go_ret
              exact ⟨ret_bool HF.out.symm, T0.out.trans (HT.out.trans (Turn.drewN [] _ _))⟩
          · have hkk : k = nae := by omega
            have Eae : Hid (ae = be) := η (List.ext_getElem? fun j => by
             by_cases hj : j < nae
             · exact HL.out j (by omega)
             · rw [List.getElem?_eq_none (by rw [← HNE.out.1]; omega), List.getElem?_eq_none (by rw [← HNE.out.2]; omega)])
            clear HL hkn hk
            subst hkk
            have HF : Hid (ans = true) := η (HA.out.2 (by rw [Eam.out, Eaw.out, Eae.out, LO.out, LN.out]))
            go_wp2_with fail
            go_ret
            exact ⟨ret_bool HF.out.symm, T0.out.trans HT.out⟩
end Go.Proofs.YtlmefpanoimkcaaGreat
set_option maxRecDepth 100000
namespace Go.Proofs.YtlmefpanoimkcaaGreat
open Go.RowKit Go.Proofs.YtlmefpanoimkcaaGreat.V
theorem refNew_calls (n : Int) (w : World) : Calls Tryz.prog 23 #[.int .i64 n] w fun e w' => e = .returned (.agg ((newS n).cells noAds)) ∧ StIs w' noAds (newS n) ∧ Turn [] w w' := by
 have C1 := η (refBroker_calls n)
 have HSI : Hid (∀ wx, StIs wx noAds (newS n)) := η (fun wx => by
  have e : (newS n).ms = [] ∧ (newS n).waits = [] ∧ (newS n).ends = [] ∧ (newS n).open_ = [] ∧ (newS n).noes = [] := by
   unfold newS
   split <;> exact ⟨rfl, rfl, rfl, rfl, rfl⟩
  obtain ⟨e1, e2, e3, e4, e5⟩ := e
  exact ⟨by rw [e1]; exact Tl.nil _ _ _, ⟨[], by rw [e2]; rfl, Tl.nil _ _ _, by simp⟩, by rw [e3]; exact Tl.nil _ _ _, ⟨[], by rw [e4]; rfl, Tl.nil _ _ _, by simp⟩, ⟨[], by rw [e5]; rfl, Tl.nil _ _ _, by simp⟩⟩)
 have HC1 : Hid (brokerB n = true → (newS n).cells noAds = #[.int .i64 n, .int .i64 1, .int .i64 1, .int .i64 0, .slice none 0 0, .slice none 0 0, .slice none 0 0, .slice none 0 0, .slice none 0 0]) := η (fun h => by unfold newS; rw [if_pos h]; rfl)
 have HC2 : Hid (brokerB n = false → (newS n).cells noAds = #[.int .i64 0, .int .i64 0, .int .i64 0, .int .i64 0, .slice none 0 0, .slice none 0 0, .slice none 0 0, .slice none 0 0, .slice none 0 0]) := η (fun h => by unfold newS; rw [if_neg (by rw [h]; simp)]; rfl)
 obtain ⟨r1, e1⟩ := ε (brokerB n)
 rw [← e1] at C1 HC1 HC2
 obtain ⟨st, hst⟩ := ε (newS n)
 rw [← hst] at HSI HC1 HC2 ⊢
 clear e1 hst
 have HZ := heap_alloc_new w (.cells #[.int .i64 0, .int .i64 0, .int .i64 0, .int .i64 0, .slice none 0 0, .slice none 0 0, .slice none 0 0, .slice none 0 0, .slice none 0 0] 27)
 have T0 := η (Turn.alloc [] w (.cells #[.int .i64 0, .int .i64 0, .int .i64 0, .int .i64 0, .slice none 0 0, .slice none 0 0, .slice none 0 0, .slice none 0 0, .slice none 0 0] 27))
 have HZ0 := η HZ
 cases r1 with
 | false =>
  have HE := η (HC2.out rfl)
  rw [HE.out]
  clear HC1 HC2 HE HZ
  go_enter Tryz.func23, Tryz.ntmps23
  go_wp2_with fail
  refine (C1.out _).mono ?_
  rintro e x1 ⟨rfl, rfl⟩
  clear C1
  go_wp2_with fail
  refine bodyPost_ret_by (results_cell_row rfl _ _ w.heap.size 27 _ (0, 0) _ rfl HZ0.out Tryz.underlying27 rfl (by kernel_rfl)) rfl ?_
  exact ⟨rfl, HSI.out _, T0.out⟩
 | true =>
  have HE := η (HC1.out rfl)
  rw [HE.out]
  clear HC1 HC2 HE
  clear HZ
  go_enter Tryz.func23, Tryz.ntmps23
  go_wp2_with fail
  refine (C1.out _).mono ?_
  rintro e x1 ⟨rfl, rfl⟩
  clear C1
  go_wp2_with fail
  refine bodyPost_ret_by (results_cell_row rfl _ _ w.heap.size 27 _ (0, 0) _ rfl (heap_alloc_new w _) Tryz.underlying27 rfl (by kernel_rfl)) rfl ?_
  exact ⟨rfl, HSI.out _, Turn.alloc [] w _⟩
end Go.Proofs.YtlmefpanoimkcaaGreat
set_option maxHeartbeats 16000000
set_option maxRecDepth 100000
namespace Go.Proofs.YtlmefpanoimkcaaGreat
open Go.RowKit Go.Proofs.YtlmefpanoimkcaaGreat.V
theorem new_is (n : Int) (wx : World) : StIs wx noAds (newS n) := by
 have e : (newS n).ms = [] ∧ (newS n).waits = [] ∧ (newS n).ends = [] ∧ (newS n).open_ = [] ∧ (newS n).noes = [] := by
  unfold newS
  split <;> exact ⟨rfl, rfl, rfl, rfl, rfl⟩
 obtain ⟨e1, e2, e3, e4, e5⟩ := e
 exact ⟨by rw [e1]; exact Tl.nil _ _ _, ⟨[], by rw [e2]; rfl, Tl.nil _ _ _, by simp⟩, by rw [e3]; exact Tl.nil _ _ _, ⟨[], by rw [e4]; rfl, Tl.nil _ _ _, by simp⟩, ⟨[], by rw [e5]; rfl, Tl.nil _ _ _, by simp⟩⟩
theorem storeMay_walk {w : World} (s : StV) (a : Ads) (hs : StX w a s) (hf : s.fit) (hz : s.ms.length * 64 ≤ 140737488355328 ∧ s.waits.length * 32 ≤ 140737488355328 ∧ s.ends.length * 16 ≤ 140737488355328 ∧ s.open_.length * 32 ≤ 140737488355328 ∧ s.noes.length * 32 ≤ 140737488355328)
 (u : StV) (d : Ads) (gs : StX w d u) (gf : u.fit) (gz : u.ms.length * 64 ≤ 140737488355328 ∧ u.waits.length * 32 ≤ 140737488355328 ∧ u.ends.length * 16 ≤ 140737488355328 ∧ u.open_.length * 32 ≤ 140737488355328 ∧ u.noes.length * 32 ≤ 140737488355328) :
 Calls Tryz.prog 3 #[.agg (s.cells a), .agg (u.cells d)] w fun e w' => e = .returned (.bool true) ∧ Below w.heap.size w w' := by
 have CS := η (fun wx (t : Turn [] w wx) => lawState_calls t hs hf hz)
 have CU := η (fun wx (t : Turn [] w wx) => lawState_calls t gs gf gz)
 have HD := η (cut_deep hs.deep)
 have HDU := η (cut_deep gs.deep)
 have HFT := η (cut_fit hf)
 obtain ⟨s', hs'⟩ : ∃ x, x = cutS s := ⟨_, rfl⟩
 obtain ⟨u', hu'⟩ : ∃ x, x = cutS u := ⟨_, rfl⟩
 rw [← hs'] at CS HD HFT
 rw [← hu'] at CU HDU
 clear hs hf hz gs gf gz hs' hu'
 have KSE := η (fun (wx : World) (a b : Ads) (s u : StV) (h : StIs wx a s) (g : StIs wx b u) => stEq_calls h g)
 have KRE := η (fun (wx : World) (a b : Ads) (s u : StV) (h : StIs wx a s) (g : StIs wx b u) => refEq_calls h g)
 have KRN := η refNew_calls
 unfold StV.cells at CS CU ⊢
 obtain ⟨b, hbd⟩ := ε w.heap.size
 have HBD := η hbd
 go_enter Tryz.func3, Tryz.ntmps3
 go_upto_region 1 with fail
 have hb1 := (Turn.alloc [] (w.alloc (.cells #[.int .i64 s.broker, .int .i64 s.nextId, .int .i64 s.nextSeq, .int .i64 s.tx, .slice a.m s.ms.length a.cm, .slice a.w s.waits.length a.cw, .slice a.e s.ends.length a.ce, .slice a.o s.open_.length a.co, .slice a.n s.noes.length a.cn] 27)) (.cells #[.int .i64 u.broker, .int .i64 u.nextId, .int .i64 u.nextSeq, .int .i64 u.tx, .slice d.m u.ms.length d.cm, .slice d.w u.waits.length d.cw, .slice d.e u.ends.length d.ce, .slice d.o u.open_.length d.co, .slice d.n u.noes.length d.cn] 27)).heap (heap_alloc_new w (.cells #[.int .i64 s.broker, .int .i64 s.nextId, .int .i64 s.nextSeq, .int .i64 s.tx, .slice a.m s.ms.length a.cm, .slice a.w s.waits.length a.cw, .slice a.e s.ends.length a.ce, .slice a.o s.open_.length a.co, .slice a.n s.noes.length a.cn] 27))
 have hb2 := heap_alloc_new (w.alloc (.cells #[.int .i64 s.broker, .int .i64 s.nextId, .int .i64 s.nextSeq, .int .i64 s.tx, .slice a.m s.ms.length a.cm, .slice a.w s.waits.length a.cw, .slice a.e s.ends.length a.ce, .slice a.o s.open_.length a.co, .slice a.n s.noes.length a.cn] 27)) (.cells #[.int .i64 u.broker, .int .i64 u.nextId, .int .i64 u.nextSeq, .int .i64 u.tx, .slice d.m u.ms.length d.cm, .slice d.w u.waits.length d.cw, .slice d.e u.ends.length d.ce, .slice d.o u.open_.length d.co, .slice d.n u.noes.length d.cn] 27)
 rw [show (w.alloc (.cells #[.int .i64 s.broker, .int .i64 s.nextId, .int .i64 s.nextSeq, .int .i64 s.tx, .slice a.m s.ms.length a.cm, .slice a.w s.waits.length a.cw, .slice a.e s.ends.length a.ce, .slice a.o s.open_.length a.co, .slice a.n s.noes.length a.cn] 27)).heap.size = w.heap.size + 1 by simp] at hb2
 have T0 := η ((Turn.alloc [] w (.cells #[.int .i64 s.broker, .int .i64 s.nextId, .int .i64 s.nextSeq, .int .i64 s.tx, .slice a.m s.ms.length a.cm, .slice a.w s.waits.length a.cw, .slice a.e s.ends.length a.ce, .slice a.o s.open_.length a.co, .slice a.n s.noes.length a.cn] 27)).trans (Turn.alloc [] (w.alloc (.cells #[.int .i64 s.broker, .int .i64 s.nextId, .int .i64 s.nextSeq, .int .i64 s.tx, .slice a.m s.ms.length a.cm, .slice a.w s.waits.length a.cw, .slice a.e s.ends.length a.ce, .slice a.o s.open_.length a.co, .slice a.n s.noes.length a.cn] 27)) (.cells #[.int .i64 u.broker, .int .i64 u.nextId, .int .i64 u.nextSeq, .int .i64 u.tx, .slice d.m u.ms.length d.cm, .slice d.w u.waits.length d.cw, .slice d.e u.ends.length d.ce, .slice d.o u.open_.length d.co, .slice d.n u.noes.length d.cn] 27)))
 generalize (w.alloc (.cells #[.int .i64 s.broker, .int .i64 s.nextId, .int .i64 s.nextSeq, .int .i64 s.tx, .slice a.m s.ms.length a.cm, .slice a.w s.waits.length a.cw, .slice a.e s.ends.length a.ce, .slice a.o s.open_.length a.co, .slice a.n s.noes.length a.cn] 27)).alloc (.cells #[.int .i64 u.broker, .int .i64 u.nextId, .int .i64 u.nextSeq, .int .i64 u.tx, .slice d.m u.ms.length d.cm, .slice d.w u.waits.length d.cw, .slice d.e u.ends.length d.ce, .slice d.o u.open_.length d.co, .slice d.n u.noes.length d.cn] 27) = y0 at *
 rw [← hbd] at hb1 hb2 ⊢
 have HB1 := η hb1
 have HB2 := η hb2
 clear hb1 hb2 hbd
 go_wp2_with fail
 refine (begun10_calls y0).mono ?_
 rintro e x1 ⟨rfl, t1⟩
 have HC1 := η (t1.heap HB1.out)
 have HC2 := η (t1.heap HB2.out)
 have T1 := η (T0.out.trans t1)
 clear t1 HB1 HB2 T0
 go_upto_region 4 with fail
 have TD := η (Turn.drew [] x1)
 refine Pq.start [5] (fun _ => True) (fun z => z.cell? ⟨b + 1, 0, none⟩ = some (.int .i64 u.broker) ∧ z.cell? ⟨b + 1, 1, none⟩ = some (.int .i64 u.nextId) ∧ z.cell? ⟨b + 1, 2, none⟩ = some (.int .i64 u.nextSeq) ∧ z.cell? ⟨b + 1, 3, none⟩ = some (.int .i64 u.tx) ∧ z.cell? ⟨b + 1, 4, none⟩ = some (.slice d.m u.ms.length d.cm) ∧ z.cell? ⟨b + 1, 5, none⟩ = some (.slice d.w u.waits.length d.cw) ∧ z.cell? ⟨b + 1, 6, none⟩ = some (.slice d.e u.ends.length d.ce) ∧ z.cell? ⟨b + 1, 7, none⟩ = some (.slice d.o u.open_.length d.co) ∧ z.cell? ⟨b + 1, 8, none⟩ = some (.slice d.n u.noes.length d.cn)) (by kernel_rfl) ?_
 have hS : True := trivial
 obtain ⟨m0, m1, m2, m3, m4, m5, m6, m7, m8⟩ := nine_of (TD.out.heap HC2.out)
 have hT : (fun z : World => z.cell? ⟨b + 1, 0, none⟩ = some (.int .i64 u.broker) ∧ z.cell? ⟨b + 1, 1, none⟩ = some (.int .i64 u.nextId) ∧ z.cell? ⟨b + 1, 2, none⟩ = some (.int .i64 u.nextSeq) ∧ z.cell? ⟨b + 1, 3, none⟩ = some (.int .i64 u.tx) ∧ z.cell? ⟨b + 1, 4, none⟩ = some (.slice d.m u.ms.length d.cm) ∧ z.cell? ⟨b + 1, 5, none⟩ = some (.slice d.w u.waits.length d.cw) ∧ z.cell? ⟨b + 1, 6, none⟩ = some (.slice d.e u.ends.length d.ce) ∧ z.cell? ⟨b + 1, 7, none⟩ = some (.slice d.o u.open_.length d.co) ∧ z.cell? ⟨b + 1, 8, none⟩ = some (.slice d.n u.noes.length d.cn)) x1.drew := ⟨m0, m1, m2, m3, m4, m5, m6, m7, m8⟩
 dsimp only at hT
 clear m0 m1 m2 m3 m4 m5 m6 m7 m8
 refine Pq.tq2 2 (some 11) hS hT ?_
 simp only [Act.put, σa, σz, σs]
 obtain ⟨c0, c1, c2, c3, c4, c5, c6, c7, c8⟩ := nine_of (TD.out.heap HC1.out)
 refine Pq.one (i := 0) (by kernel_rfl) rfl ?_
 intro K hK
 rw [if_pos (by rfl)]
 go_simp
 refine hK _ _ hS (.inr id) ?_
 clear hK K c0 c1 c2 c3 c4 c5 c6 c7 c8
 refine Pq.one (i := 1) (by kernel_rfl) rfl ?_
 intro K hK
 rw [if_pos (by rfl)]
 go_simp
 refine (CS.out _ (T1.out.trans TD.out)).mono ?_
 rintro e x2 ⟨q, a', LW, LO, LN, rfl, hlb⟩
 have LB := η hlb
 clear hlb
 have T2 := η LB.out.base
 refine hK _ _ hS (.inr (fun hh => ⟨T2.out.cell hh.1, T2.out.cell hh.2.1, T2.out.cell hh.2.2.1, T2.out.cell hh.2.2.2.1, T2.out.cell hh.2.2.2.2.1, T2.out.cell hh.2.2.2.2.2.1, T2.out.cell hh.2.2.2.2.2.2.1, T2.out.cell hh.2.2.2.2.2.2.2.1, T2.out.cell hh.2.2.2.2.2.2.2.2⟩)) ?_
 clear hK K CS hT
 refine Pq.one (i := 3) (by kernel_rfl) rfl ?_
 intro K hK
 rw [if_pos (by rfl)]
 go_simp
 refine (CU.out _ (T1.out.trans (TD.out.trans T2.out))).mono ?_
 rintro e x3 ⟨q2, d', MW, MO, MN, rfl, hlb⟩
 have LU := η hlb
 clear hlb
 have T3 := η LU.out.base
 refine hK _ _ hS (.inr (fun hh => ⟨T3.out.cell hh.1, T3.out.cell hh.2.1, T3.out.cell hh.2.2.1, T3.out.cell hh.2.2.2.1, T3.out.cell hh.2.2.2.2.1, T3.out.cell hh.2.2.2.2.2.1, T3.out.cell hh.2.2.2.2.2.2.1, T3.out.cell hh.2.2.2.2.2.2.2.1, T3.out.cell hh.2.2.2.2.2.2.2.2⟩)) ?_
 clear hK K CU
 have HE1 := η ((TD.out.trans (T2.out.trans T3.out)).heap HC1.out)
 have HE2 := η ((TD.out.trans (T2.out.trans T3.out)).heap HC2.out)
 obtain ⟨c0, c1, c2, c3, c4, c5, c6, c7, c8⟩ := nine_of HE1.out
 have f0 : ∀ j, x3.frozen? ⟨b, j, none⟩ = false := fun j => unfrozen_of HE1.out
 have T4 := η (nine_turn x3 b (.int .i64 s'.broker) (.int .i64 s'.nextId) (.int .i64 s'.nextSeq) (.int .i64 s'.tx) (.slice a'.m s'.ms.length a'.cm) (.slice a'.w s'.waits.length a'.cw) (.slice a'.e s'.ends.length a'.ce) (.slice a'.o s'.open_.length a'.co) (.slice a'.n s'.noes.length a'.cn))
 have HG1 := η (nine_heapC HE1.out (.int .i64 s'.broker) (.int .i64 s'.nextId) (.int .i64 s'.nextSeq) (.int .i64 s'.tx) (.slice a'.m s'.ms.length a'.cm) (.slice a'.w s'.waits.length a'.cw) (.slice a'.e s'.ends.length a'.ce) (.slice a'.o s'.open_.length a'.co) (.slice a'.n s'.noes.length a'.cn))
 have HG2 := η (T4.out.heap HE2.out)
 refine Pq.one (i := 4) (by kernel_rfl) rfl ?_
 intro K hK
 rw [if_pos (by rfl)]
 go_simp
 obtain ⟨z4, hz4⟩ := ε ((((((((((x3.setCell ⟨b, 0, none⟩ (.int .i64 s'.broker)).setCell ⟨b, 1, none⟩ (.int .i64 s'.nextId)).setCell ⟨b, 2, none⟩ (.int .i64 s'.nextSeq)).setCell ⟨b, 3, none⟩ (.int .i64 s'.tx)).setCell ⟨b, 4, none⟩ (.slice a'.m s'.ms.length a'.cm)).setCell ⟨b, 5, none⟩ (.slice a'.w s'.waits.length a'.cw)).setCell ⟨b, 6, none⟩ (.slice a'.e s'.ends.length a'.ce)).setCell ⟨b, 7, none⟩ (.slice a'.o s'.open_.length a'.co)).setCell ⟨b, 8, none⟩ (.slice a'.n s'.noes.length a'.cn)))
 have T4 : Hid (Turn [b] x3 z4) := by rw [hz4]; exact T4
 have HG1 : Hid (z4.heap[b]? = some (.cells #[.int .i64 s'.broker, .int .i64 s'.nextId, .int .i64 s'.nextSeq, .int .i64 s'.tx, .slice a'.m s'.ms.length a'.cm, .slice a'.w s'.waits.length a'.cw, .slice a'.e s'.ends.length a'.ce, .slice a'.o s'.open_.length a'.co, .slice a'.n s'.noes.length a'.cn] 27)) := by rw [hz4]; exact HG1
 have HG2 : Hid (z4.heap[b + 1]? = some (.cells #[.int .i64 u.broker, .int .i64 u.nextId, .int .i64 u.nextSeq, .int .i64 u.tx, .slice d.m u.ms.length d.cm, .slice d.w u.waits.length d.cw, .slice d.e u.ends.length d.ce, .slice d.o u.open_.length d.co, .slice d.n u.noes.length d.cn] 27)) := by rw [hz4]; exact HG2
 rw [← hz4]
 clear hz4
 refine hK _ _ hS (.inr (fun hh => ⟨T4.out.cell hh.1, T4.out.cell hh.2.1, T4.out.cell hh.2.2.1, T4.out.cell hh.2.2.2.1, T4.out.cell hh.2.2.2.2.1, T4.out.cell hh.2.2.2.2.2.1, T4.out.cell hh.2.2.2.2.2.2.1, T4.out.cell hh.2.2.2.2.2.2.2.1, T4.out.cell hh.2.2.2.2.2.2.2.2⟩)) ?_
 clear hK K c0 c1 c2 c3 c4 c5 c6 c7 c8 f0
 have T5 := η (nine_turn z4 (b + 1) (.int .i64 u'.broker) (.int .i64 u'.nextId) (.int .i64 u'.nextSeq) (.int .i64 u'.tx) (.slice d'.m u'.ms.length d'.cm) (.slice d'.w u'.waits.length d'.cw) (.slice d'.e u'.ends.length d'.ce) (.slice d'.o u'.open_.length d'.co) (.slice d'.n u'.noes.length d'.cn))
 have HH2 := η (nine_heapC HG2.out (.int .i64 u'.broker) (.int .i64 u'.nextId) (.int .i64 u'.nextSeq) (.int .i64 u'.tx) (.slice d'.m u'.ms.length d'.cm) (.slice d'.w u'.waits.length d'.cw) (.slice d'.e u'.ends.length d'.ce) (.slice d'.o u'.open_.length d'.co) (.slice d'.n u'.noes.length d'.cn))
 obtain ⟨z, hzz⟩ := ε ((((((((((z4.setCell ⟨b + 1, 0, none⟩ (.int .i64 u'.broker)).setCell ⟨b + 1, 1, none⟩ (.int .i64 u'.nextId)).setCell ⟨b + 1, 2, none⟩ (.int .i64 u'.nextSeq)).setCell ⟨b + 1, 3, none⟩ (.int .i64 u'.tx)).setCell ⟨b + 1, 4, none⟩ (.slice d'.m u'.ms.length d'.cm)).setCell ⟨b + 1, 5, none⟩ (.slice d'.w u'.waits.length d'.cw)).setCell ⟨b + 1, 6, none⟩ (.slice d'.e u'.ends.length d'.ce)).setCell ⟨b + 1, 7, none⟩ (.slice d'.o u'.open_.length d'.co)).setCell ⟨b + 1, 8, none⟩ (.slice d'.n u'.noes.length d'.cn)))
 have T5 : Hid (Turn [b + 1] z4 z) := by rw [hzz]; exact T5
 have HH2 : Hid (z.heap[b + 1]? = some (.cells #[.int .i64 u'.broker, .int .i64 u'.nextId, .int .i64 u'.nextSeq, .int .i64 u'.tx, .slice d'.m u'.ms.length d'.cm, .slice d'.w u'.waits.length d'.cw, .slice d'.e u'.ends.length d'.ce, .slice d'.o u'.open_.length d'.co, .slice d'.n u'.noes.length d'.cn] 27)) := by rw [hzz]; exact HH2
 have HZZ := η hzz
 clear hzz
 have HH1 := η (T5.out.heap HG1.out)
 have hg2 : z4.heap[b + 1]? = some (.cells #[.int .i64 u.broker, .int .i64 u.nextId, .int .i64 u.nextSeq, .int .i64 u.tx, .slice d.m u.ms.length d.cm, .slice d.w u.waits.length d.cw, .slice d.e u.ends.length d.ce, .slice d.o u.open_.length d.co, .slice d.n u.noes.length d.cn] 27) := HG2.out
 obtain ⟨m0, m1, m2, m3, m4, m5, m6, m7, m8⟩ := nine_of hg2
 have f0 : ∀ j, z4.frozen? ⟨b + 1, j, none⟩ = false := fun j => unfrozen_of hg2
 have SZ : Hid (∀ wx, Turn [] z wx → StIs wx a' s') := η (fun wx tx => by
  refine LB.out.reads HD.out (l := [b, b + 1]) ((T3.out.mono (by simp)).trans ((T4.out.mono (by simp)).trans ((T5.out.mono (by simp)).trans (tx.mono (by simp)) (fun i hi => .inl hi)) (fun i hi => .inl hi)) (fun i hi => .inl hi)) (fun k hk => ?_)
  have h1 := (Array.getElem?_eq_some_iff.1 (TD.out.heap HC2.out)).1
  have h2 := HBD.out
  simp only [List.mem_cons, List.not_mem_nil, or_false] at hk
  omega)
 have UZ : Hid (∀ wx, Turn [] z wx → StIs wx d' u') := η (fun wx tx => by
  refine LU.out.reads HDU.out (l := [b, b + 1]) ((T4.out.mono (by simp)).trans ((T5.out.mono (by simp)).trans (tx.mono (by simp)) (fun i hi => .inl hi)) (fun i hi => .inl hi)) (fun k hk => ?_)
  have h1 := (Array.getElem?_eq_some_iff.1 ((TD.out.trans T2.out).heap HC2.out)).1
  have h2 := HBD.out
  simp only [List.mem_cons, List.not_mem_nil, or_false] at hk
  omega)
 have TZ : Hid (Turn [] w z) := η ((T1.out.trans (TD.out.trans (T2.out.trans T3.out))).trans ((T4.out.mono (l' := [b, b + 1]) (by simp)).trans (T5.out.mono (by simp)) (fun i hi => .inl hi)) (fun i hi => .inr (by simp at hi; have := HBD.out; omega)))
 clear hg2
 refine Pq.one (i := 5) (by kernel_rfl) rfl ?_
 intro K hK
 rw [if_pos (by rfl)]
 go_simp
 rw [← HZZ.out]
 refine hK _ _ hS (.inl (by simp)) (Pq.done (by kernel_rfl) ?_ _)
 clear hK K m0 m1 m2 m3 m4 m5 m6 m7 m8 f0
 clear HG1 HG2 HE1 HE2 T4 T5 LB LU T3 T2 TD HC1 HC2 T1 HZZ HBD
 obtain ⟨mb, hmb⟩ := ε (mayB s')
 obtain ⟨eb, heb⟩ := ε (eqStB s' u')
 obtain ⟨nv, hnv⟩ := ε ((newS s'.broker).cells noAds)
 have e1 : eqStB s' s' = true := (eqStB_iff s' s').2 rfl
 have e2 : eqStB (newS s'.broker) (newS s'.broker) = true := (eqStB_iff _ _).2 rfl
 have F1 := η (Tw.call (y := z) (fun x t => may_calls (SZ.out x t) HFT.out))
 have F2 := η (Tw.call (y := z) (fun x t => refMay_calls (SZ.out x t) HFT.out))
 have F3 := η (Tw.call (y := z) (fun x t => KSE.out _ _ _ _ _ (SZ.out x t) (UZ.out x t)))
 have F4 := η (Tw.call (y := z) (fun x t => KRE.out _ _ _ _ _ (SZ.out x t) (UZ.out x t)))
 have F5 := η (Tw.call (y := z) (fun x t => KSE.out _ _ _ _ _ (SZ.out x t) (SZ.out x t)))
 have F6 := η (Tw.call (y := z) (fun x _ => (stNew_calls s'.broker x).mono fun _ _ h => ⟨h.1, h.2.2⟩))
 have F7 := η (Tw.call (y := z) (fun x _ => (KRN.out s'.broker x).mono fun _ _ h => ⟨h.1, h.2.2⟩))
 have F8 := η (Tw.call (y := z) (fun x _ => KRE.out _ _ _ _ _ (new_is s'.broker x) (new_is s'.broker x)))
 rw [← hmb] at F1 F2
 rw [← heb] at F3 F4
 rw [e1] at F5
 rw [e2] at F8
 rw [← hnv] at F6 F7 F8
 unfold StV.cells at F1 F2 F3 F4 F5
 clear KSE KRE KRN hmb heb hnv e1 e2 SZ UZ HFT HD HDU
 obtain ⟨c0, c1, c2, c3, c4, c5, c6, c7, c8⟩ := nine_of HH1.out
 obtain ⟨m0, m1, m2, m3, m4, m5, m6, m7, m8⟩ := nine_of HH2.out
 go_upto_region 5 with fail
 replace c0 := fun p : Tw z => p.cell c0
 replace c1 := fun p : Tw z => p.cell c1
 replace c2 := fun p : Tw z => p.cell c2
 replace c3 := fun p : Tw z => p.cell c3
 replace c4 := fun p : Tw z => p.cell c4
 replace c5 := fun p : Tw z => p.cell c5
 replace c6 := fun p : Tw z => p.cell c6
 replace c7 := fun p : Tw z => p.cell c7
 replace c8 := fun p : Tw z => p.cell c8
 replace m0 := fun p : Tw z => p.cell m0
 replace m1 := fun p : Tw z => p.cell m1
 replace m2 := fun p : Tw z => p.cell m2
 replace m3 := fun p : Tw z => p.cell m3
 replace m4 := fun p : Tw z => p.cell m4
 replace m5 := fun p : Tw z => p.cell m5
 replace m6 := fun p : Tw z => p.cell m6
 replace m7 := fun p : Tw z => p.cell m7
 replace m8 := fun p : Tw z => p.cell m8
 cases mb <;> cases eb
 all_goals
  refine quiet_turn (by kernel_rfl) (by kernel_rfl) ?_
  repeat (go_big_quiet_step (first | (go_at_call 18; exact F1.out _) | (go_at_call 19; exact F2.out _) | (go_at_call 20; first | with_reducible exact F3.out _ | with_reducible exact F5.out _) | (go_at_call 21; first | with_reducible exact F4.out _ | with_reducible exact F8.out _) | (go_at_call 22; exact F6.out _) | (go_at_call 23; exact F7.out _)))
  refine wpQuiet_nil ?_
  rintro _ ⟨p, rfl⟩
  go_wp2_with fail
  go_ret
  exact ⟨rfl, (TZ.out.trans p.t).belowAll⟩
end Go.Proofs.YtlmefpanoimkcaaGreat
set_option maxRecDepth 100000
namespace Go.Proofs.YtlmefpanoimkcaaGreat.storeMay
open Go.ChangeShapes Go.WideShapes Go.ChangeAt Go.RowKit
open Go.ChangeMaps (open_string shut_string)
set_option linter.unusedVariables false
theorem own : ownKnob Tryz.prog.godebug = none := by kernel_rfl
theorem laidOut : laidOutB Tryz.prog = true := closed.p_laidOutB
theorem lifted (os : Os) (started : os.Started) (H : Type) (enc : TypeId × Value → H) :
 ReturnsInHanded {} Tryz.checked os 3 .any (Rows.storeMaySpec.pre6 enc Tryz.prog Tryz.f3 Rows.storeMayRow.domain false) (Rows.storeMaySpec.post enc Tryz.prog Tryz.f3 false true false false) := by
 refine returnsInHanded_of_change_sized (C := Tryz.checked) own started (by kernel_rfl) Tryz.func3
  (ChangeSpec.witness6 (enc := enc) (C := Tryz.checked) false ⟨#[], #[.agg #[.int .i64 0, .int .i64 0, .int .i64 0, .int .i64 0, .slice none 0 0, .slice none 0 0, .slice none 0 0, .slice none 0 0, .slice none 0 0], .agg #[.int .i64 0, .int .i64 0, .int .i64 0, .int .i64 0, .slice none 0 0, .slice none 0 0, .slice none 0 0, .slice none 0 0, .slice none 0 0]], []⟩ 8 (by kernel_rfl) (by kernel_rfl) (by kernel_rfl) (by kernel_rfl)) ?_
 intro W base args ds gs before hval0 hW hcnd hsz0 _
 have hsz : (DataW.weightsEach Tryz.prog (Tryz.f3.params.toList ++ Rows.storeMaySpec.plain.varTypes Tryz.prog) (ds ++ gs)).all (· ≤ reachBytes) = true := hsz0
 have hval : ∀ (j : Nat) t v, Tryz.f3.params[j]? = some t → args[j]? = some v → Value.okWide Tryz.prog W .any base t v := hval0
 have hW' := hW
 obtain ⟨p, q, hA0, hV, rfl, hfz, hnd⟩ := hW
 have hA : DataW.TrodAll enc Tryz.prog W 0 (fun _ => true) true Tryz.f3.params.toList args.toList ds p := hA0
 rw [Tryz.params3] at hA hval hsz
 obtain ⟨v0, vs0, d0, ds0, p0, q0, hargs, rfl, rfl, h0, r0⟩ := trodAll_cons hA
 obtain ⟨v1, vs1, d1, ds1, p1, q1, rfl, rfl, rfl, h1, r1⟩ := trodAll_cons r0
 obtain ⟨rfl, rfl, rfl⟩ := trodAll_nil r1
 obtain rfl : args = #[v0, v1] := by cases args; simp_all
 obtain ⟨rfl, rfl⟩ := trodVars_none hV
 have k0 := h0
 have lt0 : ∀ x ∈ p0, x.block < W.heap.size := by obtain ⟨m, hm⟩ := k0; exact DataW.trod_lt m _ _ _ hm
 obtain ⟨a0, b0, rfl, wx0, wf0, wb0⟩ := open_state (hval 0 27 v0 rfl rfl) h0
 have wz0 := wb0 reachBytes (fun k hk => of_decide_eq_true (List.all_eq_true.1 hsz k (DataW.weights_mem_each (j := 0) (t := 27) (d := d0) rfl rfl k hk)))
 rw [show reachBytes = 140737488351232 from rfl] at wz0
 have k1 := h1
 have lt1 : ∀ x ∈ p1, x.block < W.heap.size := by obtain ⟨m, hm⟩ := k1; exact DataW.trod_lt m _ _ _ hm
 obtain ⟨a1, b1, rfl, wx1, wf1, wb1⟩ := open_state (hval 1 27 v1 rfl rfl) h1
 have wz1 := wb1 reachBytes (fun k hk => of_decide_eq_true (List.all_eq_true.1 hsz k (DataW.weights_mem_each (j := 1) (t := 27) (d := d1) rfl rfl k hk)))
 rw [show reachBytes = 140737488351232 from rfl] at wz1
 clear hA0 hval0
 refine (storeMay_walk (w := W) a0 b0 wx0 wf0 ⟨by omega, by omega, by omega, by omega, by omega⟩ a1 b1 wx1 wf1 ⟨by omega, by omega, by omega, by omega, by omega⟩).mono fun e W' ⟨he, bel⟩ => ?_
 subst he
 exact ⟨_, rfl, _, _, _, [], _, [], hW', trodAll_mk1 (shut_bool Tryz.underlying4 _), (trodAll_cons_mk (Below.trod laidOut (by kernel_rfl) (of_decide_eq_true (by kernel_rfl)) k0 bel lt0) (trodAll_cons_mk (Below.trod laidOut (by kernel_rfl) (of_decide_eq_true (by kernel_rfl)) k1 bel lt1) trodAll_mk0)), rfl, bel.frame _, fun h => by cases h⟩
theorem closedAll : joinedFacts Tryz.prog 3 Tryz.f3 Rows.storeMaySpec Rows.storeMayRow = true :=
 joinMk.joined_mk (by kernel_rfl) closed.p_laidOutB closed.p_mapsRowed (by kernel_rfl) (by kernel_rfl) (by kernel_rfl) closed.p_stops (by kernel_rfl) closed.p_stopKnobs (by kernel_rfl) (by kernel_rfl) (by kernel_rfl) (by kernel_rfl) (by kernel_rfl) (by kernel_rfl) (by kernel_rfl) (by kernel_rfl) (by kernel_rfl) (by kernel_rfl) (by kernel_rfl) (by kernel_rfl) (by kernel_rfl) (by show (_ == _) = true; rw [closed.plainKeys_is]; kernel_rfl) (by kernel_rfl) closed.p_stopsHeard closed.p_mayEnter (by show (_ == _) = true; rw [closed.lifted_is]; kernel_rfl) (by show (_ == _) = true; rw [closed.make_is]; kernel_rfl) (by kernel_rfl) (by kernel_rfl) (by kernel_rfl) (by kernel_rfl)
theorem over : Rows.storeMayRow.holds Tryz.pinned (OpenSpec.ofChange Rows.storeMaySpec) :=
 OpenClaim.holds_of_wide 3 Tryz.f3 rfl rfl rfl rfl rfl rfl rfl ⟨rfl, rfl, rfl, rfl, rfl⟩ rfl rfl rfl rfl rfl (by kernel_rfl) Tryz.func3 closedAll
  (of_decide_eq_true (by kernel_rfl)) (by unfold Func.isWrapper; first | (rw [if_pos (by decide +kernel)]; kernel_rfl) | (rw [if_neg (by decide +kernel)]; exact ⟨rfl, rfl⟩))
  (fun os started H enc _ => lifted os started H enc)
theorem proved : Rows.StoreMaySaid := over
end Go.Proofs.YtlmefpanoimkcaaGreat.storeMay
