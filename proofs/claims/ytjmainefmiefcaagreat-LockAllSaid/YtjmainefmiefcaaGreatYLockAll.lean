/-
  Of the texts LockAllWalk LockAll, in build order, each as it was built alone.
-/
import Derived.Test.YtjmainefmiefcaaGreatPkAD
import Derived.Deep.CutRange
import Derived.Deep.RegionWith
import Derived.OpenShut
import Derived.Test.YtjmainefmiefcaaGreatRows
import Derived.Test.YtjmainefmiefcaaGreatPkAH
import Derived.ProofKit
import Derived.ShutString
import Derived.ChangeOld
import Derived.Below

/-
  The walk of the law LockAll.
-/
namespace Go.Proofs.YtjmainefmiefcaaGreat
open Go.RowKit

theorem split_tid : ∀ (Q : List Gq) (x : Int), Rs Q → ∃ A R, Q = A ++ R ∧ (∀ a ∈ A, a.tid < x) ∧ ∀ r ∈ R, x ≤ r.tid
  | [], x, _ => ⟨[], [], rfl, by simp, by simp⟩
  | q :: Q, x, h => by
    obtain ⟨h1, h2⟩ := List.pairwise_cons.1 h
    by_cases hq : q.tid < x
    · obtain ⟨A, R, e, hA, hR⟩ := split_tid Q x h2
      exact ⟨q :: A, R, by rw [e]; rfl, fun a ha => by
        rcases List.mem_cons.1 ha with rfl | ha
        · exact hq
        · exact hA a ha, hR⟩
    · exact ⟨[], q :: Q, rfl, by simp, fun r hr => by
        rcases List.mem_cons.1 hr with rfl | hr
        · omega
        · have := h1 r hr; omega⟩

theorem short_Q {Q : List Gq} (h : Rs Q) (h5 : ∀ q ∈ Q, 0 ≤ q.tid ∧ q.tid ≤ 4) : Q.length ≤ 5 := by
  have hs : ∀ (Q : List Gq) (n : Int), Rs Q → (∀ q ∈ Q, n ≤ q.tid ∧ q.tid ≤ 4) → (Q.length : Int) ≤ max 0 (5 - n) := by
    intro Q
    induction Q with
    | nil => intro n _ _; simp; omega
    | cons q Q ih =>
      intro n hr hb
      obtain ⟨h1, h2⟩ := List.pairwise_cons.1 hr
      have hq := hb q (by simp)
      have := ih (q.tid + 1) h2 (fun r hr => ⟨by have := h1 r hr; omega, (hb r (by simp [hr])).2⟩)
      rw [List.length_cons]
      omega
  have := hs Q 0 h h5
  omega

theorem rest13 (x : Int) : (x.tmod 5 + 5).tmod 5 = x % 5 := by
  have h0 := Int.tmod_eq_emod (a := x) (b := 5)
  rw [Int.tmod_eq_emod_of_nonneg (by split at h0 <;> omega)]
  split at h0 <;> omega

theorem five_of {w : World} {g : Nat} {v0 v1 v2 v3 v4 : Value} {t : TypeId} (h : w.heap[g]? = some (.cells #[v0, v1, v2, v3, v4] t)) : w.cell? ⟨g, 0, none⟩ = some v0 ∧ w.cell? ⟨g, 1, none⟩ = some v1 ∧ w.cell? ⟨g, 2, none⟩ = some v2 ∧ w.cell? ⟨g, 3, none⟩ = some v3 ∧ w.cell? ⟨g, 4, none⟩ = some v4 := by
  refine ⟨?_, ?_, ?_, ?_, ?_⟩ <;> rw [cell_of_row _ _ _ _ _ _ h] <;> rfl

theorem cutN_le (s : ByteArray) (n : Nat) : (cutN s n).size ≤ n := by
  show (s.data.toList.take n).toArray.size ≤ n
  simp
  omega

theorem src_four {w : World} {q : Nat} {v0 v1 v2 v3 : Value} {T : TypeId} (h : w.heap[q]? = some (.cells #[v0, v1, v2, v3] T)) : Src 4 w (some ⟨q, 0, none⟩) 1 1 [v0, v1, v2, v3] := by
  refine .inr ⟨_, rfl, rfl, fun j z hj => ?_⟩
  rw [Addr.add_lit, cell_of_row _ _ _ _ _ _ h]
  simpa using hj

theorem own_turn13 {w0 w w' : World} {B : Nat} {e : TypeId} {z n : Nat} {v : Value} {xs : List Value} (h : w.ownsRow B e z v n xs) (t : Turn [] w0 w) (hB : w0.heap.size ≤ B) (g : w.grownBy w' v.ownBlock) : Turn [] w0 w' :=
  t.trans (Turn.grown (l := v.ownBlock.toList) g (fun k hk => .inl (by simp [hk]))) (fun i hi => .inr (Nat.le_trans hB (h.lt _ (Option.mem_toList.1 hi)).1))

def older (g : Gn) : Gn := (⟨g.1.tid, g.1.n, g.1.puts, g.1.heard - 1⟩, g.2)

theorem gc_older (t : Int) (g : Gn) : gc t (older g) = gc (t + 1) g := by
  unfold gc older
  simp
  omega

theorem Gw.young {w : World} {wl : List Nat} {t : Int} {vw : Value} {G : List Gn} (h : Gw w wl t vw (G.map older)) : Gw w wl (t + 1) vw G := by
  have e : (G.map older).flatMap (gc t) = G.flatMap (gc (t + 1)) := by
    rw [List.flatMap_map]
    simp only [gc_older]
  refine ⟨?_, fun g hg => h.rows (older g) (List.mem_map_of_mem hg), ?_, h.hw, fun g hg => h.hrow (older g) (List.mem_map_of_mem hg)⟩
  · have := h.row
    rw [e, List.length_map] at this
    exact this
  · exact List.pairwise_map.1 h.sep

def mid (G : List Gn) (j : Nat) : List Gn := (G.take j).map older ++ G.drop j

theorem mid_full (G : List Gn) : mid G G.length = G.map older := by simp [mid]

theorem mid_step {G : List Gn} {j : Nat} {g : Gn} (h : G[j]? = some g) : mid G j = (G.take j).map older ++ g :: G.drop (j + 1) ∧ mid G (j + 1) = (G.take j).map older ++ older g :: G.drop (j + 1) := by
  obtain ⟨hl, rfl⟩ := List.getElem?_eq_some_iff.1 h
  refine ⟨?_, ?_⟩
  · unfold mid
    rw [← List.drop_eq_getElem_cons hl]
  · unfold mid
    rw [List.take_succ_eq_append_getElem hl, List.map_append]
    simp

theorem Ls.heard {w : World} {ow : List Nat} {b nm : Nat} {ticks : Int} {Q : List Gq} (h : Ls w ow b nm ticks Q) : (0 ≤ ticks ∧ ticks ≤ 1000000) ∧ ∀ q ∈ Q, 0 ≤ q.heard ∧ q.heard ≤ ticks := by
  obtain ⟨tb, mb, tv, K, hK, hk⟩ := h
  exact ⟨hk.tim.ti, fun q hq => hk.tim.nums (qa q) (List.mem_map_of_mem hq)⟩

theorem row_sr {w : World} {base : Nat} {ao : Option Addr} {n c : Nat} {l : List Int} (h : w.ownsRow base 2 1 (.slice ao n c) l.length (i64s l)) : Sr w ao c l := by
  rcases h.2 with ⟨e, h0⟩ | ⟨g, cap, cur, e, -⟩
  · injection e with e1 e2 e3
    exact .inl ⟨e1, e3, List.eq_nil_of_length_eq_zero h0⟩
  · injection e with e1 e2 e3
    refine .inr ⟨_, e1, fun j hj => ?_⟩
    refine h.cells (g := g) (by rw [e1]; rfl) j (.int .i64 (l.getD j 0)) ?_
    rw [i64s, List.getElem?_map, List.getElem?_eq_getElem hj]
    simp [List.getD, hj]

/-- Who is told at the next tick. -/
def silL (t : Int) (Q : List Gq) : List Int := ((Q.map qa).filter fun p => decide (6 ≤ t - p.2)).map (·.1)

theorem sil_i64 (t : Int) (Q : List Gq) : L.silK 6 t (Q.map qa) = i64s (silL t Q) := by
  unfold L.silK silL i64s
  rw [List.map_map]
  rfl

theorem Ls.fit {w : World} {ow : List Nat} {b nm : Nat} {ticks : Int} {Q : List Gq} (h : Ls w ow b nm ticks Q) : ∀ q ∈ Q, ∀ p ∈ q.puts, p.1.size ≤ 9223372036854775807 ∧ p.2.size ≤ 9223372036854775807 := by
  obtain ⟨tb, mb, tv, K, rfl, hk⟩ := h
  intro q hq
  obtain ⟨g, hg, rfl⟩ := List.mem_map.1 hq
  exact hk.fit g hg

theorem own_ps13 {w : World} {base : Nat} {ao : Option Addr} {n c : Nat} {l : Pts} (h : w.ownsRow base 28 2 (.slice ao n c) l.length (pcells l)) (hb : ∀ p ∈ l, p.1.size ≤ 9223372036854775807 ∧ p.2.size ≤ 9223372036854775807) : Ps w ao c l := by
  obtain rfl := (row_cap h).1
  exact own_ps (ownsRow_base h (fun _ _ => Nat.zero_le _)) (fun i hi => by
    rw [show l.getD i putNone = l[i] by simp [List.getD, hi]]
    exact hb _ (List.getElem_mem hi))

theorem row_src {w : World} {base : Nat} {e : TypeId} {size : Nat} {ao : Option Addr} {n c : Nat} {xs : List Value} (h : w.ownsRow base e size (.slice ao n c) n xs) (hl : xs.length = n * size) : Src size w ao n c xs := by
  rcases h.2 with ⟨e1, h0⟩ | ⟨g, cap, cur, e1, -⟩
  · injection e1 with e2 e3 e4
    exact .inl ⟨e2, h0, e4, List.eq_nil_of_length_eq_zero (by rw [hl, h0]; simp)⟩
  · injection e1 with e2 e3 e4
    exact .inr ⟨_, e2, hl, fun j u hj => h.cells (g := g) (by rw [e2]; rfl) j u hj⟩

theorem take_q {Q : List Gq} {j : Nat} {q : Gq} (h : Q[j]? = some q) : (Q.take (j + 1)).map (·.tid) = (Q.take j).map (·.tid) ++ [q.tid] ∧ (Q.take (j + 1)).flatMap (·.puts) = (Q.take j).flatMap (·.puts) ++ q.puts := by
  rw [List.take_add_one, h]
  simp

theorem flat_few : ∀ {l : List Gq}, (∀ q ∈ l, q.puts.length ≤ 10) → (l.flatMap (·.puts)).length ≤ 10 * l.length
  | [], _ => by simp
  | a :: l, hl => by
    have h1 := flat_few (l := l) (fun q hq => hl q (by simp [hq]))
    have h2 := hl a (by simp)
    rw [List.flatMap_cons, List.length_append, List.length_cons]
    omega

theorem cell_new' {w : World} {x : Value} {t : TypeId} {q : Nat} (hq : q = w.heap.size) : (w.alloc (.cells #[x] t)).cell? ⟨q, 0, none⟩ = some x := by
  subst hq
  exact cell_new _ _ _

theorem src_one {w : World} {q : Nat} {v0 : Value} {T : TypeId} (h : w.heap[q]? = some (.cells #[v0] T)) : Src 1 w (some ⟨q, 0, none⟩) 1 1 [v0] := by
  refine .inr ⟨_, rfl, rfl, fun j z hj => ?_⟩
  rw [Addr.add_lit, cell_of_row _ _ _ _ _ _ h]
  simpa using hj

theorem ins_end {w wd y6 : World} {el : List Nat} {b nm : Nat} {ticks : Int} {Q : List Gq} {aw : Option Addr} {m cw : Nat} {GA GR : List Gn} {x : Int} {L : Nat} {p3 : Option Addr} {k3 : Nat} (hO : Bo w wd el b nm ticks Q ticks (.slice aw m cw) (GA ++ GR)) (t : Turn [] wd y6)
    (r : y6.ownsRow wd.heap.size 34 4 (.slice p3 L k3) L (GA.flatMap (gc ticks) ++ [.int .i64 x, .slice none 0 0, .int .i64 0, .int .i64 0] ++ GR.flatMap (gc ticks))) (hL : L = m + 1) :
    ∃ g3, p3 = some ⟨g3, 0, none⟩ ∧ Bo w y6 el b nm ticks Q ticks (.slice p3 (m + 1) k3) (GA ++ ((⟨x, 0, [], ticks⟩, .slice none 0 0) : Gn) :: GR) := by
  subst hL
  obtain ⟨g3, hg3⟩ := row_addr r (by omega)
  have hl := hO.len.1
  refine ⟨g3, hg3, (hO.mine (fun wl hg => ⟨_, hg.again t ?_ ?_ ?_, Stp.of t (by simp) (fun k hk => .inr (r.lt _ hk).1)⟩)).1⟩
  · have e : (GA ++ ((⟨x, 0, [], ticks⟩, .slice none 0 0) : Gn) :: GR).flatMap (gc ticks) = GA.flatMap (gc ticks) ++ [.int .i64 x, .slice none 0 0, .int .i64 0, .int .i64 0] ++ GR.flatMap (gc ticks) := by
      rw [List.flatMap_append, List.flatMap_cons, ← List.append_assoc]
      have : gc ticks ((⟨x, 0, [], ticks⟩, .slice none 0 0) : Gn) = [.int .i64 x, .slice none 0 0, .int .i64 0, .int .i64 0] := by simp [gc]
      rw [this]
    rw [e, show (GA ++ ((⟨x, 0, [], ticks⟩, .slice none 0 0) : Gn) :: GR).length = m + 1 by simp at hl ⊢; omega]
    exact r
  · exact pair_ins hg.sep (fun a _ k hk e => by cases e) (fun a _ k hk => by cases hk)
  · intro g hg2
    rcases mem_mid' hg2 with rfl | h
    · exact .inr ⟨rfl, rfl⟩
    · exact .inl h

set_option maxHeartbeats 16000000 in
set_option maxRecDepth 100000 in
theorem lockAll_walk (hbg : BegunOk) {w : World} (ao : Option Addr) (cap : Nat) (l : List Ov) (hl : Ol w ao cap l) : Calls Tryz.prog 3 #[.slice ao l.length cap] w fun e w' => e = .returned (.bool true) ∧ Below w.heap.size w w' := by
  have HL := Lib.hid hl
  have hlen := hl.len
  obtain ⟨n, hn⟩ : ∃ n, n = l.length := ⟨_, rfl⟩
  have HN := Lib.hid hn
  rw [← hn] at hlen ⊢
  clear hl hn
  go_enter Tryz.func3, Tryz.ntmps3
  go_wp2_with fail
  refine (hbg w).mono ?_
  rintro e w1 ⟨rfl, b1⟩
  have B1 := Lib.hid b1
  clear b1
  go_wp2_with fail
  refine (lw_new B1.out).mono ?_
  rintro e w2 ⟨b, rfl, h2⟩
  have O2 := Lib.hid (Bo.start h2 0)
  clear h2 B1
  go_wp2_with fail
  go_loopw [5, 6] (fun vw vi wx => ∃ (k nm : Nat) (ticks : Int) (Q : List Gq) (G : List Gn), k ≤ n ∧ k ≤ 60 ∧ nm ≤ k ∧ (0 ≤ ticks ∧ ticks ≤ (k : Int)) ∧ vi = .int .i64 (k : Int) ∧ (∀ q ∈ Q, 0 ≤ q.tid ∧ q.tid ≤ 4 ∧ (q.puts.length : Int) ≤ q.n) ∧ G.map Prod.fst = Q ∧ Bo w wx [] b nm ticks Q ticks vw G) (fun _ vi _ => 61 - (intOf vi).toNat)
  case atStart => exact ⟨0, 0, 0, [], [], by omega, by omega, by omega, by omega, rfl, by simp, rfl, O2.out⟩
  case round => as_aux_lemma =>
    obtain ⟨k, nm, ticks, Q, G, hk, hk6, hnm, htk, rfl, h5, hGQ, ho⟩ := hrel
    have O := Lib.hid ho
    have H5 := Lib.hid h5
    have HGQ := Lib.hid hGQ
    have HNB := Lib.hid hnm
    have HTK := Lib.hid htk
    obtain ⟨aw, cw, hvw⟩ := ho.form
    subst hvw
    clear ho O2 h5 hGQ hnm htk
    by_cases hkn : k < n ∧ k < 60
    · obtain ⟨hk1, hk2⟩ := hkn
      have hkl : k < l.length := by rw [← HN.out]; exact hk1
      obtain ⟨bq, off, hao, hok, d0, d1, d2, d3, d4⟩ := HL.out.at O.out.bel hkl
      obtain ⟨kd, hkd⟩ : ∃ x, x = (l.getD k ov0).kind := ⟨_, rfl⟩
      obtain ⟨tt, htt⟩ : ∃ x, x = (l.getD k ov0).t := ⟨_, rfl⟩
      obtain ⟨uu, huu⟩ : ∃ x, x = (l.getD k ov0).u := ⟨_, rfl⟩
      obtain ⟨sq, hsq⟩ : ∃ x, x = (l.getD k ov0).q := ⟨_, rfl⟩
      obtain ⟨sb, hsb⟩ : ∃ x, x = (l.getD k ov0).b := ⟨_, rfl⟩
      obtain ⟨hok0, hok1, -, hok3, hok4⟩ := hok
      rw [← hkd] at d0 hok0
      rw [← htt] at d1 hok1
      rw [← huu] at d2
      rw [← hsq] at d3 hok3
      rw [← hsb] at d4 hok4
      unfold inI64 at hok1
      have HK1 := Lib.hid hk1
      have HK2 := Lib.hid hk2
      have hb : 0 ≤ (k : Int) ∧ (k : Int) < (n : Int) := by omega
      have hi60 : (k : Int) < 60 := by omega
      obtain ⟨x, hx⟩ : ∃ x, x = tt % 5 := ⟨_, rfl⟩
      have ea : (tt.tmod 5 + 5).tmod 5 = x := by rw [hx]; exact rest13 tt
      have ba : -5 < tt.tmod 5 ∧ tt.tmod 5 < 5 := by
        rw [Int.tmod_eq_emod (a := tt) (b := 5)]
        split <;> omega
      have hx4 : 0 ≤ x ∧ x ≤ 4 := by omega
      have HX := Lib.hid hx4
      have HAO := Lib.hid hao
      subst hao
      clear hkd htt huu hsq hsb hx hk1 hk2 hkl hok0 hk hk6
      have hbx := heap_alloc_new wr (.cells #[.int .i64 kd, .int .i64 tt, .int .i64 uu, .string sq, .string sb] 30)
      obtain ⟨e0, e1, e2, e3, e4⟩ := five_of hbx
      have T1 := Lib.hid (Turn.alloc [] wr (.cells #[.int .i64 kd, .int .i64 tt, .int .i64 uu, .string sq, .string sb] 30))
      have HBX := Lib.hid hbx
      clear hbx
      go_upto_region 11 with fail
      have O1 := Lib.hid (O.out.quiet T1.out)
      have HLT : Hid (wr.heap.size < (wr.alloc (.cells #[.int .i64 kd, .int .i64 tt, .int .i64 uu, .string sq, .string sb] 30)).heap.size) := Lib.hid (lt_of_heap HBX.out)
      have HCU : Hid (∀ y, Calls Tryz.prog 14 #[.string sq, .int .i64 8] y fun e w' => e = .returned (.string (cutN sq 8)) ∧ w' = y) := Lib.hid (fun y => cut8_calls sq 8 y (by omega) (by omega))
      have HCV : Hid (∀ y, Calls Tryz.prog 14 #[.string sb, .int .i64 60] y fun e w' => e = .returned (.string (cutN sb 60)) ∧ w' = y) := Lib.hid (fun y => cut8_calls sb 60 y (by omega) (by omega))
      have HZU := Lib.hid (cutN_le sq 8)
      have HZV := Lib.hid (cutN_le sb 60)
      obtain ⟨u, hu⟩ : ∃ u, u = cutN sq 8 := ⟨_, rfl⟩
      obtain ⟨v, hv⟩ : ∃ u, u = cutN sb 60 := ⟨_, rfl⟩
      rw [← hu] at HCU HZU
      rw [← hv] at HCV HZV
      have HE : Hid (∀ wx q, Turn [] (wr.alloc (.cells #[.int .i64 kd, .int .i64 tt, .int .i64 uu, .string sq, .string sb] 30)) wx → (wr.alloc (.cells #[.int .i64 kd, .int .i64 tt, .int .i64 uu, .string sq, .string sb] 30)).heap.size ≤ q → q < wx.heap.size → Bo w wx [wr.heap.size, q] b nm ticks Q ticks (.slice aw G.length cw) G) := Lib.hid (fun wx q tq h1 h2 => O.out.extra (T1.out.trans tq (by simp)) (by simp) (fun i hi => by
        have h3 := HLT.out
        have h4 := tq.size
        simp at hi
        rcases hi with rfl | rfl
        · exact ⟨.inr (Nat.le_refl _), by omega⟩
        · exact ⟨.inr (by omega), h2⟩))
      generalize wr.alloc (.cells #[.int .i64 kd, .int .i64 tt, .int .i64 uu, .string sq, .string sb] 30) = x1 at *
      generalize wr.heap.size = qo at *
      clear hu hv d0 d1 d2 d3 d4 hok1 ea ba hb hi60 O
      go_cut [9] from 41 to 49 (fun v9 wx => ∃ q : Nat, v9 = .pointer (some ⟨q, 0, none⟩) ∧ x1.heap.size ≤ q ∧ wx.heap[q]? = some (.cells #[.string u, .string v] 28) ∧ Turn [] x1 wx)
      case first => as_aux_lemma =>
        have TD := Lib.hid (Turn.drew [] x1)
        have TA := Lib.hid ((Turn.alloc [] x1 (.cells #[.string ⟨#[]⟩, .string ⟨#[]⟩] 28)).trans (Turn.drew [] _) (by simp))
        have HSA : Hid ((fun y : World => y.cell? ⟨qo, 3, none⟩ = some (.string sq) ∧ y.cell? ⟨qo, 4, none⟩ = some (.string sb)) (x1.alloc (.cells #[.string ⟨#[]⟩, .string ⟨#[]⟩] 28)).drew) := Lib.hid ⟨TA.out.cell e3 (by simp), TA.out.cell e4 (by simp)⟩
        have hS : (fun y : World => y.cell? ⟨qo, 3, none⟩ = some (.string sq) ∧ y.cell? ⟨qo, 4, none⟩ = some (.string sb)) x1.drew := ⟨TD.out.cell e3 (by simp), TD.out.cell e4 (by simp)⟩
        have HQA : Hid ((x1.alloc (.cells #[.string ⟨#[]⟩, .string ⟨#[]⟩] 28)).drew.heap[x1.heap.size]? = some (.cells #[.string ⟨#[]⟩, .string ⟨#[]⟩] 28)) := Lib.hid ((Turn.drew [] _).heap (heap_alloc_new x1 (.cells #[.string ⟨#[]⟩, .string ⟨#[]⟩] 28)) (by simp))
        have TU := Lib.hid ((Turn.alloc [] x1 (.cells #[.string u, .string v] 28)).trans (Turn.drew [] _) (by simp))
        have HSU : Hid ((fun y : World => y.cell? ⟨qo, 3, none⟩ = some (.string sq) ∧ y.cell? ⟨qo, 4, none⟩ = some (.string sb)) (x1.alloc (.cells #[.string u, .string v] 28)).drew) := Lib.hid ⟨TU.out.cell e3 (by simp), TU.out.cell e4 (by simp)⟩
        have HQU : Hid ((x1.alloc (.cells #[.string u, .string v] 28)).drew.heap[x1.heap.size]? = some (.cells #[.string u, .string v] 28)) := Lib.hid ((Turn.drew [] _).heap (heap_alloc_new x1 (.cells #[.string u, .string v] 28)) (by simp))
        clear e0 e1 e2 e3 e4
        refine Pq.start [] (fun y => y.cell? ⟨qo, 3, none⟩ = some (.string sq) ∧ y.cell? ⟨qo, 4, none⟩ = some (.string sb)) (fun _ => True) (by kernel_rfl) ?_
        dsimp only at hS
        refine Pq.tk 0 (some 41) (v := ?_) hS ?_ ?_
        rotate_left
        · (intro y hy; obtain ⟨z0, z1⟩ := hy; go_simp; try with_reducible rfl)
        simp only [Act.put, List.setIfInBounds_toArray, List.set_cons_zero, List.set_cons_succ]
        refine Pq.tk 1 (some 42) (v := ?_) hS ?_ ?_
        rotate_left
        · (intro y hy; obtain ⟨z0, z1⟩ := hy; go_simp; try with_reducible rfl)
        simp only [Act.put, List.setIfInBounds_toArray, List.set_cons_zero, List.set_cons_succ]
        refine Pq.tk 2 (some 43) (v := ?_) hS ?_ ?_
        rotate_left
        · (intro y hy; obtain ⟨z0, z1⟩ := hy; go_simp; try with_reducible rfl)
        simp only [Act.put, List.setIfInBounds_toArray, List.set_cons_zero, List.set_cons_succ]
        refine Pq.tk 4 (some 45) (v := ?_) hS ?_ ?_
        rotate_left
        · (intro y hy; obtain ⟨z0, z1⟩ := hy; go_simp; try with_reducible rfl)
        simp only [Act.put, List.setIfInBounds_toArray, List.set_cons_zero, List.set_cons_succ]
        refine Pq.tk 5 (some 46) (v := ?_) hS ?_ ?_
        rotate_left
        · (intro y hy; obtain ⟨z0, z1⟩ := hy; go_simp; try with_reducible rfl)
        simp only [Act.put, List.setIfInBounds_toArray, List.set_cons_zero, List.set_cons_succ]
        refine Pq.tk 6 (some 47) (v := ?_) hS ?_ ?_
        rotate_left
        · (intro y hy; obtain ⟨z0, z1⟩ := hy; go_simp; try with_reducible rfl)
        simp only [Act.put, List.setIfInBounds_toArray, List.set_cons_zero, List.set_cons_succ]
        refine Pq.two (i := 3) (j := 9) (by kernel_rfl) rfl rfl ?_ ?_
        focus
          intro K0 hK
          rw [if_pos (by rfl)]
          go_simp
          refine (HCU.out _).mono ?_
          rintro e z1 ⟨rfl, rfl⟩
          refine hK _ _ hS (.inr id) ?_
          clear hK K0
          refine Pq.two (i := 7) (j := 9) (by kernel_rfl) rfl rfl ?_ ?_
          focus
            intro K0 hK
            rw [if_pos (by rfl)]
            go_simp
            refine (HCV.out _).mono ?_
            rintro e z1 ⟨rfl, rfl⟩
            refine hK _ _ hS (.inr id) ?_
            clear hK K0
            refine Pq.tk 8 (some 49) (v := ?_) hS ?_ ?_
            rotate_left
            · (intro y hy; go_simp; try with_reducible rfl)
            simp only [Act.put, List.setIfInBounds_toArray, List.set_cons_zero, List.set_cons_succ]
            refine Pq.one (i := 9) (by kernel_rfl) rfl ?_
            intro K0 hK
            rw [if_pos (by rfl)]
            go_simp
            refine hK _ _ HSA.out (.inr id) ?_
            clear hK K0 hS
            have hS := HSA.out
            dsimp only at hS
          rotate_left
          focus
            intro K0 hK
            rw [if_pos (by rfl)]
            go_simp
            refine hK _ _ HSA.out (.inr id) ?_
            clear hK K0 hS
            have hS := HSA.out
            dsimp only at hS
            refine Pq.one (i := 7) (by kernel_rfl) rfl ?_
            intro K0 hK
            rw [if_pos (by rfl)]
            go_simp
            refine (HCV.out _).mono ?_
            rintro e z1 ⟨rfl, rfl⟩
            refine hK _ _ hS (.inr id) ?_
            clear hK K0
            refine Pq.tk 8 (some 49) (v := ?_) hS ?_ ?_
            rotate_left
            · (intro y hy; go_simp; try with_reducible rfl)
            simp only [Act.put, List.setIfInBounds_toArray, List.set_cons_zero, List.set_cons_succ]
        rotate_left 2
        focus
          intro K0 hK
          rw [if_pos (by rfl)]
          go_simp
          refine hK _ _ HSA.out (.inr id) ?_
          clear hK K0 hS
          have hS := HSA.out
          dsimp only at hS
          refine Pq.one (i := 3) (by kernel_rfl) rfl ?_
          intro K0 hK
          rw [if_pos (by rfl)]
          go_simp
          refine (HCU.out _).mono ?_
          rintro e z1 ⟨rfl, rfl⟩
          refine hK _ _ hS (.inr id) ?_
          clear hK K0
          refine Pq.one (i := 7) (by kernel_rfl) rfl ?_
          intro K0 hK
          rw [if_pos (by rfl)]
          go_simp
          refine (HCV.out _).mono ?_
          rintro e z1 ⟨rfl, rfl⟩
          refine hK _ _ hS (.inr id) ?_
          clear hK K0
          refine Pq.tk 8 (some 49) (v := ?_) hS ?_ ?_
          rotate_left
          · (intro y hy; go_simp; try with_reducible rfl)
          simp only [Act.put, List.setIfInBounds_toArray, List.set_cons_zero, List.set_cons_succ]
        all_goals
          refine Pq.one (i := 10) (by kernel_rfl) rfl ?_
          intro K0 hK
          rw [if_pos (by rfl)]
          obtain ⟨g0, g1⟩ := cell2_of HQA.out
          have fr : ∀ j, (x1.alloc (.cells #[.string ⟨#[]⟩, .string ⟨#[]⟩] 28)).drew.frozen? ⟨x1.heap.size, j, none⟩ = false := fun j => unfrozen_of HQA.out
          go_simp
          refine hK _ _ HSU.out (.inr id) ?_
          clear hK K0 fr g0 g1
          refine Pq.done (by kernel_rfl) ?_ _
          go_wp2_with fail
          go_meet
          exact ⟨_, rfl, Nat.le_refl _, HQU.out, TU.out⟩
      case rest => as_aux_lemma =>
        obtain ⟨qp, rfl, hqp, hpb, ht⟩ := hcut
        have OB := Lib.hid (HE.out wc qp ht hqp (lt_of_heap hpb))
        have BQ := Lib.hid (ht.heap HBX.out (by simp))
        have BP := Lib.hid hpb
        clear HE HBX hqp hpb ht e0 e1 e2 e3 e4 HCU HCV T1 O1 HLT
        obtain ⟨A, R, hQs, hA, hR⟩ := split_tid Q x OB.out.ls.choose_spec.ris
        obtain ⟨GA, GR, hG, hGA, hGR⟩ := List.map_eq_append_iff.1 (HGQ.out.trans hQs)
        have HQS := Lib.hid hQs
        have HA := Lib.hid hA
        have HR := Lib.hid hR
        have HG := Lib.hid hG
        have HGA := Lib.hid hGA
        have HGR := Lib.hid hGR
        obtain ⟨K, hK⟩ : ∃ K, K = GA.length := ⟨_, rfl⟩
        have HK := Lib.hid hK
        obtain ⟨m, hm⟩ : ∃ m, m = G.length := ⟨_, rfl⟩
        have HM := Lib.hid hm
        have hKm : K ≤ m := by rw [hK, hm, hG, List.length_append]; omega
        have hm5 : (m : Int) ≤ 5 := by
          have h1 := short_Q OB.out.ls.choose_spec.ris (fun q hq => ⟨(H5.out q hq).1, (H5.out q hq).2.1⟩)
          rw [← HGQ.out, List.length_map] at h1
          omega
        rw [← hm] at OB ⊢
        have LO : Hid (∀ kk : Nat, kk < K → ∃ gb z, aw = some ⟨gb, 0, none⟩ ∧ wc.cell? ⟨gb, kk * 4, none⟩ = some (.int .i64 z) ∧ z < x) := Lib.hid (fun kk hkk => by
          obtain ⟨gb, hgb⟩ : ∃ gb, aw = some ⟨gb, 0, none⟩ := by
            obtain ⟨wl, hg⟩ := OB.out.gw
            exact row_addr hg.row (by omega)
          obtain ⟨g, hg⟩ : ∃ g, GA[kk]? = some g := ⟨_, List.getElem?_eq_getElem (by omega)⟩
          have hg2 : G[kk]? = some g := by rw [HG.out, List.getElem?_append_left (by omega)]; exact hg
          have o := OB.out
          rw [hgb] at o
          refine ⟨gb, g.1.tid, hgb, (o.cells hg2).1, HA.out _ ?_⟩
          rw [← HGA.out]
          exact List.mem_map_of_mem (List.mem_of_getElem? hg))
        have HI : Hid ((m = K ∧ (∀ r ∈ R, x < r.tid)) ∨ ∃ gb z, aw = some ⟨gb, 0, none⟩ ∧ K < m ∧ wc.cell? ⟨gb, K * 4, none⟩ = some (.int .i64 z) ∧ ((x < z ∧ (∀ r ∈ R, x < r.tid)) ∨ (z = x ∧ ∃ q B, R = q :: B ∧ q.tid = x))) := Lib.hid (by
          cases hGRc : GR with
          | nil =>
            refine .inl ⟨by rw [HM.out, HG.out, hGRc, HK.out]; simp, ?_⟩
            rw [← HGR.out, hGRc]
            simp
          | cons g GB =>
            refine .inr ?_
            have hKl : K < m := by rw [HM.out, HG.out, hGRc, HK.out]; simp
            obtain ⟨gb, hgb⟩ : ∃ gb, aw = some ⟨gb, 0, none⟩ := by
              obtain ⟨wl, hg⟩ := OB.out.gw
              exact row_addr hg.row (by omega)
            have hg2 : G[K]? = some g := by rw [HG.out, List.getElem?_append_right (by omega), hGRc, show K - GA.length = 0 by omega]; rfl
            have o := OB.out
            rw [hgb] at o
            have hRc : R = g.1 :: GB.map Prod.fst := by rw [← HGR.out, hGRc]; rfl
            refine ⟨gb, g.1.tid, hgb, hKl, (o.cells hg2).1, ?_⟩
            have h0 := HR.out g.1 (by rw [hRc]; simp)
            have hri := OB.out.ls.choose_spec.ris
            rw [HQS.out, hRc] at hri
            rcases Int.lt_or_eq_of_le h0 with h1 | h1
            · refine .inl ⟨h1, fun r hr => ?_⟩
              rw [hRc] at hr
              rcases List.mem_cons.1 hr with rfl | hr
              · exact h1
              · have := hri.mid.2 r hr; omega
            · exact .inr ⟨h1.symm, g.1, _, hRc, h1.symm⟩)
        clear hQs hA hR hG hGA hGR hm hK
        have hx4 := HX.out
        go_wp2_with fail
        go_loopw [10] (fun v10 wx => ∃ kk : Nat, kk ≤ K ∧ v10 = .int .i64 (kk : Int) ∧ wx = wc) (fun v10 _ => K - (intOf v10).toNat)
        case atStart => exact ⟨0, by omega, rfl, by trivial⟩
        case round => as_aux_lemma =>
          obtain ⟨kk, hkk, rfl, hwy⟩ := hrel
          subst hwy
          have HKK := Lib.hid hkk
          clear hkk
          go_upto_region 13 with fail
          go_cut [62] from 50 to 62 (fun v62 wx => v62 = .bool (decide (kk < K)) ∧ wx = wr)
          case first => as_aux_lemma =>
            by_cases hkK : kk < K
            · obtain ⟨gb, z, haw, cz, hzx⟩ := LO.out kk hkK
              subst haw
              have HD := Lib.hid (decide_eq_true hkK)
              have hb : 0 ≤ (kk : Int) ∧ (kk : Int) < (m : Int) := by omega
              clear hkK
              go_wp2_with fail
              go_meet
              exact ⟨by rw [HD.out], by trivial⟩
            · have hkk2 : kk = K := by have := HKK.out; omega
              have HD := Lib.hid (decide_eq_false hkK)
              subst hkk2
              rcases HI.out with ⟨hmK, -⟩ | ⟨gb, z, haw, hKm2, cz, hz⟩
              · have hlt : ¬ (kk : Int) < (m : Int) := by omega
                clear hkK hmK
                go_wp2_with fail
                go_meet
                exact ⟨by rw [HD.out], by trivial⟩
              · subst haw
                have hlt : ¬ z < x := by rcases hz with ⟨h1, -⟩ | ⟨h1, -⟩ <;> omega
                have hb : 0 ≤ (kk : Int) ∧ (kk : Int) < (m : Int) := by omega
                clear hkK
                go_wp2_with fail
                go_meet
                exact ⟨by rw [HD.out], by trivial⟩
          case rest => as_aux_lemma =>
            obtain ⟨rfl, hwc2⟩ := hcut
            subst hwc2
            by_cases hkK : kk < K
            · have hd : decide (kk < K) = true := decide_eq_true hkK
              rw [hd]
              have hkm : (kk : Int) < 5 := by omega
              have HKL := Lib.hid hkK
              clear hkK hd
              go_wp2_with fail
              go_roundw
              case rel => exact ⟨kk + 1, HKL.out, by go_num, by trivial⟩
              case measure => have := HKL.out; simp [intOf]; omega
            · have hd : decide (kk < K) = false := decide_eq_false hkK
              rw [hd]
              have hkk2 : kk = K := by have := HKK.out; omega
              subst hkk2
              clear hkK hd HKK LO
              obtain ⟨inB, hin⟩ : ∃ i : Bool, (i = true ∧ ∃ q B, R = q :: B ∧ q.tid = x) ∨ (i = false ∧ ∀ r ∈ R, x < r.tid) := by
                rcases HI.out with ⟨-, h1⟩ | ⟨gb, z, -, -, -, ⟨-, h1⟩ | ⟨-, h1⟩⟩
                · exact ⟨false, .inr ⟨rfl, h1⟩⟩
                · exact ⟨false, .inr ⟨rfl, h1⟩⟩
                · exact ⟨true, .inl ⟨rfl, h1⟩⟩
              have HIN := Lib.hid hin
              clear hin
              go_upto_region 15 with fail
              go_cut [11] from 65 to 77 (fun v11 wx => v11 = .bool inB ∧ wx = wc)
              case first => as_aux_lemma =>
                rcases HI.out with ⟨hmK, h1⟩ | ⟨gb, z, haw, hKm2, cz, hz⟩
                · have hlt : ¬ (kk : Int) < (m : Int) := by omega
                  have HB0 : Hid (inB = false) := Lib.hid (by
                    rcases HIN.out with ⟨-, q, B, e, e2⟩ | ⟨h2, -⟩
                    · have := h1 q (by rw [e]; simp); omega
                    · exact h2)
                  clear h1 hmK
                  go_wp2_with fail
                  go_meet
                  exact ⟨by rw [HB0.out], by trivial⟩
                · subst haw
                  have hb : 0 ≤ (kk : Int) ∧ (kk : Int) < (m : Int) := by omega
                  rcases hz with ⟨hz1, h1⟩ | ⟨hz1, hq⟩
                  · have hne : (z == x) = false := by simp; omega
                    have HB0 : Hid (inB = false) := Lib.hid (by
                      rcases HIN.out with ⟨-, q, B, e, e2⟩ | ⟨h2, -⟩
                      · have := h1 q (by rw [e]; simp); omega
                      · exact h2)
                    clear h1 hz1
                    go_wp2_with fail
                    go_meet
                    exact ⟨by rw [HB0.out], by trivial⟩
                  · have hne : (z == x) = true := by simpa using hz1
                    have HB0 : Hid (inB = true) := Lib.hid (by
                      rcases HIN.out with ⟨h2, -⟩ | ⟨-, h2⟩
                      · exact h2
                      · obtain ⟨q, B, e, e2⟩ := hq
                        have := h2 q (by rw [e]; simp); omega)
                    clear hz1 hq
                    go_wp2_with fail
                    go_meet
                    exact ⟨by rw [HB0.out], by trivial⟩
              case rest => as_aux_lemma =>
                obtain ⟨rfl, hwc3⟩ := hcut
                subst hwc3
                have c0 := (five_of BQ.out).1
                have hk60 : (k : Int) < 60 := by have := HK2.out; omega
                clear HI
                by_cases h0 : kd = 0
                · subst h0
                  cases inB with
                  | false =>
                    have hB : ∀ r ∈ R, x < r.tid := by
                      rcases HIN.out with ⟨h, -⟩ | ⟨-, h⟩
                      · cases h
                      · exact h
                    have HB9 := Lib.hid hB
                    have C := Lib.hid (OB.out.call (nm' := nm + 1) (ticks' := ticks) (Q' := A ++ ⟨x, 0 + 1, [] ++ [(u, v)], ticks⟩ :: R) (f := 15) (args := #[.pointer (some ⟨b, 0, none⟩), .int .i64 x, .agg #[.string u, .string v]]) (R := fun e _ => e = .returned (.bool true)) (fun ow h => by
                      refine (put_on h (A := A) (B := R) (n := 0) (P := []) (.inl ⟨HQS.out, rfl, rfl, (by have := short_Q h.ris (fun q hq => ⟨(H5.out q hq).1, (H5.out q hq).2.1⟩); omega)⟩) (by unfold inI64; omega) HA.out hB (by omega) (by simp) (by have := HNB.out; have := HK2.out; omega) u v (by have := HZU.out; omega) (by have := HZV.out; omega)).mono ?_
                      rintro e w' ⟨ow', rfl, h2, s2⟩
                      exact ⟨ow', rfl, h2, s2⟩))
                    obtain ⟨p0, p1⟩ := cell2_of BP.out
                    clear hB
                    go_wp2_with fail
                    refine C.out.mono ?_
                    rintro e wd ⟨rfl, hbo, hoff⟩
                    have OE := Lib.hid hbo
                    have BQ1 := Lib.hid (hoff.heap (by simp) BQ.out)
                    have BP1 := Lib.hid (hoff.heap (by simp) BP.out)
                    have ck := (five_of BQ1.out).1
                    clear hbo hoff C c0 p0 p1 OB BQ BP
                    go_upto_region 33 with fail
                    clear ck
                    go_cut [5] from 149 to 162 (fun v5 wx => ∃ g3 k3, v5 = .slice (some ⟨g3, 0, none⟩) (m + 1) k3 ∧ Bo w wx [qo, qp] b (nm + 1) ticks (A ++ ⟨x, 0 + 1, [] ++ [(u, v)], ticks⟩ :: R) ticks v5 (GA ++ (⟨x, 0, [], ticks⟩, .slice none 0 0) :: GR) ∧ wx.heap[qo]? = some (.cells #[.int .i64 0, .int .i64 tt, .int .i64 uu, .string sq, .string sb] 30) ∧ wx.heap[qp]? = some (.cells #[.string u, .string v] 28))
                    case first => as_aux_lemma =>
                      have HLEN : Hid (GA.length = kk ∧ GR.length = m - kk) := Lib.hid (by
                        have h1 := HM.out
                        have h2 := HK.out
                        rw [HG.out, List.length_append] at h1
                        omega)
                      have HMK : Hid (kk ≤ m) := Lib.hid hKm
                      have ONES : Hid ((∀ u ∈ GA.flatMap (gc ticks), u.oneCell' = true) ∧ ∀ u ∈ GR.flatMap (gc ticks), u.oneCell' = true) := Lib.hid (by
                        obtain ⟨wl, hg⟩ := OE.out.gw
                        have := ones_gc hg
                        rw [HG.out, List.flatMap_append] at this
                        exact ⟨fun u hu => this u (List.mem_append.2 (.inl hu)), fun u hu => this u (List.mem_append.2 (.inr hu))⟩)
                      obtain ⟨i0, hi, hz0, hz1, hz2⟩ := info_parts Tryz.gorow
                      have HI0 := Lib.hid (And.intro hi (And.intro hz0 (And.intro hz1 hz2)))
                      clear hi hz0 hz1 hz2
                      have TD := Lib.hid (Turn.drew [] wd)
                      have hS : True := trivial
                      obtain ⟨hlm, hmc, hcm⟩ := OE.out.len
                      rcases hawc : aw with _ | av0
                      focus
                        have hnn : G.length = 0 ∧ m = 0 ∧ cw = 0 := by
                          obtain ⟨wl, hg⟩ := OE.out.gw
                          have h := hg.row
                          rw [hawc] at h
                          exact row_none h
                        obtain ⟨hg0, hm0, hc0⟩ := hnn
                        have hk0 : kk = 0 := by have := HMK.out; omega
                        subst hawc
                        have HF : Hid (Src 4 wd none 0 0 (GA.flatMap (gc ticks))) := Lib.hid (.inl ⟨rfl, rfl, rfl, by rw [show GA = [] from List.eq_nil_of_length_eq_zero (by have := HLEN.out; omega)]; rfl⟩)
                        have HB : Hid (Src 4 wd none (0 - 0) 0 (GR.flatMap (gc ticks))) := Lib.hid (.inl ⟨rfl, rfl, rfl, by rw [show GR = [] from List.eq_nil_of_length_eq_zero (by have := HLEN.out; omega)]; rfl⟩)
                        subst hm0 hc0 hk0
                        clear hlm hmc hcm hg0
                        refine Pq.start [] (fun _ => True) (fun _ => True) (by kernel_rfl) ?_
                      rotate_left
                      focus
                        obtain ⟨gb0, hav0⟩ : ∃ g, av0 = ⟨g, 0, none⟩ := by
                          obtain ⟨wl, hg⟩ := OE.out.gw
                          have h := hg.row
                          rw [hawc] at h
                          rcases h.2 with ⟨e, h0⟩ | ⟨g, cap, cur, e, -⟩
                          · injection e with e1
                            cases e1
                          · injection e with e1
                            injection e1 with e1
                            exact ⟨g, e1⟩
                        subst hav0
                        subst hawc
                        have HF : Hid (Src 4 wd (some ⟨gb0, 0, none⟩) kk cw (GA.flatMap (gc ticks))) := Lib.hid (by
                          obtain ⟨wl, hg⟩ := OE.out.gw
                          rw [HG.out] at hg
                          have := hg.front (by simp)
                          rw [HLEN.out.1] at this
                          exact this)
                        obtain ⟨A2, hA2⟩ : ∃ a2 : Option Addr, a2 = (if cw = kk then some ⟨gb0, 0, none⟩ else some ⟨gb0, kk * 4, none⟩) := ⟨_, rfl⟩
                        have HB : Hid (Src 4 wd A2 (m - kk) (cw - kk) (GR.flatMap (gc ticks))) := Lib.hid (by
                          obtain ⟨wl, hg⟩ := OE.out.gw
                          rw [hA2, ← HLEN.out.2]
                          split
                          · next e =>
                            have e3 : GR = [] := List.eq_nil_of_length_eq_zero (by have := HLEN.out; omega)
                            rw [e3]
                            exact .inr ⟨_, rfl, rfl, fun j u hj => by simp at hj⟩
                          · rw [HG.out] at hg
                            exact hg.back _ _ HLEN.out.1.symm)
                        replace hA2 := hA2.symm
                        have hkc : kk ≤ cw := by have := HMK.out; omega
                        have hbn : 0 ≤ (kk : Int) ∧ (kk : Int) ≤ (m : Int) := by have := HMK.out; omega
                        clear hlm
                        refine Pq.start [] (fun _ => True) (fun _ => True) (by kernel_rfl) ?_
                      all_goals
                        refine Pq.tk 0 (some 151) (v := ?_) hS ?_ ?_
                        rotate_left
                        · (intro y hy; go_simp; try with_reducible rfl)
                        simp only [Act.put, List.setIfInBounds_toArray, List.set_cons_zero, List.set_cons_succ]
                        refine Pq.tk 1 (some 152) (v := ?_) hS ?_ ?_
                        rotate_left
                        · (intro y hy; go_simp; try with_reducible rfl)
                        simp only [Act.put, List.setIfInBounds_toArray, List.set_cons_zero, List.set_cons_succ]
                        refine Pq.tk 2 (some 153) (v := ?_) hS ?_ ?_
                        rotate_left
                        · (intro y hy; go_simp; try with_reducible rfl)
                        simp only [Act.put, List.setIfInBounds_toArray, List.set_cons_zero, List.set_cons_succ]
                        refine Pq.tk 4 (some 155) (v := ?_) hS ?_ ?_
                        rotate_left
                        · (intro y hy; go_simp; try with_reducible rfl)
                        simp only [Act.put, List.setIfInBounds_toArray, List.set_cons_zero, List.set_cons_succ]
                        refine Pq.tk 5 (some 156) (v := ?_) hS ?_ ?_
                        rotate_left
                        · (intro y hy; go_simp; try with_reducible rfl)
                        simp only [Act.put, List.setIfInBounds_toArray, List.set_cons_zero, List.set_cons_succ]
                        refine Pq.tk 8 (some 159) (v := ?_) hS ?_ ?_
                        rotate_left
                        · (intro y hy; go_simp; try with_reducible rfl)
                        simp only [Act.put, List.setIfInBounds_toArray, List.set_cons_zero, List.set_cons_succ]
                        refine Pq.tk 9 (some 160) (v := ?_) hS ?_ ?_
                        rotate_left
                        · (intro y hy; go_simp; try with_reducible rfl)
                        simp only [Act.put, List.setIfInBounds_toArray, List.set_cons_zero, List.set_cons_succ]
                        refine Pq.tk 10 (some 161) (v := ?_) hS ?_ ?_
                        rotate_left
                        · (intro y hy; go_simp; try with_reducible rfl)
                        simp only [Act.put, List.setIfInBounds_toArray, List.set_cons_zero, List.set_cons_succ]
                        refine Pq.two (i := 3) (j := 6) (by kernel_rfl) rfl rfl ?_ ?_
                        focus
                          intro K0 hK
                          refine step_append_src Tryz.underlying26 HI0.out.1 HI0.out.2.1 HI0.out.2.2.1 HI0.out.2.2.2 rfl (by decide) rfl (.const (.slice none 0 0)) (.tmp 153) rfl wd.heap.size (.slice none 0 0) 0 [] rfl (World.ownsRow_nil _ _ _ _) TD.out.size _ _ _ _ rfl (HF.out.turn TD.out) ONES.out.1 (by omega) (by omega) (fun v1 y3 r1 g1 o1 => ?_)
                          rw [Nat.zero_add, List.nil_append] at r1
                          have T3 := Lib.hid (TD.out.trans (Turn.grown (l := []) g1 (fun k hk => by simp [Value.ownBlock] at hk)) (by simp))
                          obtain ⟨p1, k1, hv1⟩ := row_slice r1
                          subst hv1
                          have R3 := Lib.hid r1
                          clear r1 g1 o1
                          refine hK _ _ trivial (.inr id) ?_
                          clear hK K0
                          refine Pq.one (i := 6) (by kernel_rfl) rfl ?_
                          intro K0 hK
                          rw [if_pos (by rfl)]
                          go_simp
                          have T4 := Lib.hid (T3.out.trans (Turn.alloc [] y3 (.cells #[.int .i64 x, .slice none 0 0, .int .i64 0, .int .i64 0] 34)) (by simp))
                          have R4 := Lib.hid (ownsRow_turn R3.out (Turn.alloc [] y3 (.cells #[.int .i64 x, .slice none 0 0, .int .i64 0, .int .i64 0] 34)) (by simp))
                          have HQN := Lib.hid (heap_alloc_new y3 (.cells #[.int .i64 x, .slice none 0 0, .int .i64 0, .int .i64 0] 34))
                          refine hK _ _ trivial (.inr id) ?_
                          clear hK K0 R3 T3
                          generalize y3.alloc (.cells #[.int .i64 x, .slice none 0 0, .int .i64 0, .int .i64 0] 34) = yy at *
                          generalize y3.heap.size = qn at *
                        rotate_left
                        focus
                          intro K0 hK
                          rw [if_pos (by rfl)]
                          go_simp
                          have T3 := Lib.hid ((Turn.alloc [] wd (.cells #[.int .i64 x, .slice none 0 0, .int .i64 0, .int .i64 0] 34)).trans (Turn.drew [] _) (by simp))
                          have HQ0 : Hid ((wd.alloc (.cells #[.int .i64 x, .slice none 0 0, .int .i64 0, .int .i64 0] 34)).drew.heap[wd.heap.size]? = some (.cells #[.int .i64 x, .slice none 0 0, .int .i64 0, .int .i64 0] 34)) := Lib.hid ((Turn.drew [] _).heap (heap_alloc_new wd (.cells #[.int .i64 x, .slice none 0 0, .int .i64 0, .int .i64 0] 34)) (by simp))
                          refine hK _ _ trivial (.inr id) ?_
                          clear hK K0
                          generalize (wd.alloc (.cells #[.int .i64 x, .slice none 0 0, .int .i64 0, .int .i64 0] 34)).drew = y3 at *
                          refine Pq.one (i := 3) (by kernel_rfl) rfl ?_
                          intro K0 hK
                          refine step_append_src Tryz.underlying26 HI0.out.1 HI0.out.2.1 HI0.out.2.2.1 HI0.out.2.2.2 rfl (by decide) rfl (.const (.slice none 0 0)) (.tmp 153) rfl wd.heap.size (.slice none 0 0) 0 [] rfl (World.ownsRow_nil _ _ _ _) T3.out.size _ _ _ _ rfl (HF.out.turn T3.out) ONES.out.1 (by omega) (by omega) (fun v1 yy r1 g1 o1 => ?_)
                          rw [Nat.zero_add, List.nil_append] at r1
                          have tg := Turn.grown (l := []) g1 (fun k hk => by simp [Value.ownBlock] at hk)
                          have T4 := Lib.hid (T3.out.trans tg (by simp))
                          have HQN := Lib.hid (tg.heap HQ0.out (by simp))
                          obtain ⟨p1, k1, hv1⟩ := row_slice r1
                          subst hv1
                          have R4 := Lib.hid r1
                          refine hK _ _ trivial (.inr id) ?_
                          clear hK K0 r1 g1 o1 tg HQ0 T3
                        all_goals
                          refine Pq.one (i := 7) (by kernel_rfl) rfl ?_
                          intro K0 hK
                          refine step_append_src Tryz.underlying26 HI0.out.1 HI0.out.2.1 HI0.out.2.2.1 HI0.out.2.2.2 rfl (by decide) rfl (.tmp 154) (.tmp 157) rfl wd.heap.size (.slice p1 _ k1) _ _ rfl R4.out T4.out.size _ 1 1 [.int .i64 x, .slice none 0 0, .int .i64 0, .int .i64 0] rfl (src_four HQN.out) (by intro u hu; simp at hu; rcases hu with rfl | rfl | rfl <;> rfl) (by omega) (by omega) (fun v2 y5 r2 g2 o2 => ?_)
                          have T6 := Lib.hid (own_turn13 R4.out T4.out (Nat.le_refl _) g2)
                          obtain ⟨p2, k2, hv2⟩ := row_slice r2
                          subst hv2
                          have R6 := Lib.hid r2
                          clear r2 g2 o2
                          refine hK _ _ trivial (.inr id) ?_
                          clear hK K0
                          refine Pq.one (i := 11) (by kernel_rfl) rfl ?_
                          intro K0 hK
                          refine step_append_src Tryz.underlying26 HI0.out.1 HI0.out.2.1 HI0.out.2.2.1 HI0.out.2.2.2 rfl (by decide) rfl (.tmp 158) (.tmp 161) rfl wd.heap.size (.slice p2 _ k2) _ _ rfl R6.out T6.out.size _ _ _ _ rfl (HB.out.turn T6.out) ONES.out.2 (by omega) (by omega) (fun v3 y6 r3 g3 o3 => ?_)
                          have T7 := Lib.hid (own_turn13 R6.out T6.out (Nat.le_refl _) g3)
                          obtain ⟨p3, k3, hv3⟩ := row_slice r3
                          subst hv3
                          have R7 := Lib.hid r3
                          clear r3 g3 o3
                          refine hK _ _ trivial (.inr id) ?_
                          clear hK K0
                          refine Pq.tk 12 (some 5) (v := ?_) hS ?_ ?_
                          rotate_left
                          · (intro y hy; go_simp; try with_reducible rfl)
                          refine Pq.done (by kernel_rfl) ?_ _
                          go_wp2_with fail
                          go_meet
                          obtain ⟨g3, hg3, hb3⟩ := ins_end (by rw [← HG.out]; exact OE.out) T7.out R7.out (by have := HMK.out; omega)
                          subst hg3
                          refine ⟨g3, k3, ?_, ?_, T7.out.heap BQ1.out (by simp), T7.out.heap BP1.out (by simp)⟩
                          · first | rfl | rw [show kk + 1 + (m - kk) = m + 1 by have := HMK.out; omega]
                          · first | exact hb3 | (rw [show kk + 1 + (m - kk) = m + 1 by have := HMK.out; omega]; exact hb3)
                    case rest => as_aux_lemma =>
                      obtain ⟨gb, cc, rfl, hbo, hq1, hq2⟩ := hcut
                      obtain ⟨n0, hn0⟩ : ∃ n0 : Int, n0 = 0 := ⟨_, rfl⟩
                      obtain ⟨P, hP⟩ : ∃ P : Pts, P = [] := ⟨_, rfl⟩
                      obtain ⟨mm, hmm⟩ : ∃ mm, mm = m + 1 := ⟨_, rfl⟩
                      obtain ⟨vv, hvv⟩ : ∃ vv, vv = Value.slice none 0 0 := ⟨_, rfl⟩
                      obtain ⟨hd, hhd⟩ : ∃ hd, hd = ticks := ⟨_, rfl⟩
                      rw [← hmm]
                      have hbo2 : Bo w wc [qo, qp] b (nm + 1) ticks (A ++ ⟨x, n0 + 1, P ++ [(u, v)], ticks⟩ :: R) ticks (.slice (some ⟨gb, 0, none⟩) mm cc) (GA ++ (⟨x, n0, P, hd⟩, vv) :: GR) := by rw [hhd, hP, hn0, hmm, hvv]; exact hbo
                      have OT := Lib.hid hbo2
                      have BQT := Lib.hid hq1
                      have BPT := Lib.hid hq2
                      have hb : 0 ≤ (kk : Int) ∧ (kk : Int) < (mm : Int) := by omega
                      have hn9 : 0 ≤ n0 ∧ n0 ≤ 9 := by omega
                      have HP10 : Hid (P.length ≤ 9) := Lib.hid (by rw [hP]; simp)
                      have HPN : Hid ((P.length : Int) ≤ n0) := Lib.hid (by rw [hP, hn0]; simp)
                      have HGL : Hid (GA.length = kk) := Lib.hid HK.out.symm
                      obtain ⟨GBl, hGBl⟩ : ∃ G, G = GR := ⟨_, rfl⟩
                      obtain ⟨Bl, hBl⟩ : ∃ G, G = R := ⟨_, rfl⟩
                      have HGB : Hid (GBl.map Prod.fst = Bl) := Lib.hid (by rw [hGBl, hBl]; exact HGR.out)
                      have HAB : Hid (∀ y ∈ A ++ Bl, 0 ≤ y.tid ∧ y.tid ≤ 4 ∧ (y.puts.length : Int) ≤ y.n) := Lib.hid (fun y hy => H5.out y (by rw [HQS.out, ← hBl]; exact hy))
                      rw [← hGBl, ← hBl] at OT
                      clear hbo hbo2 hq1 hq2 hn0 hP hmm hvv hhd hGBl hBl OE BQ1 BP1 HIN
                      obtain ⟨-, k1, k2, k3, fr⟩ := OT.out.cells (i := kk) (g := (⟨x, n0, P, hd⟩, vv)) (by rw [← HGL.out]; simp)
                      have hqg : qo ≠ gb := OT.out.apart (by simp)
                      have ck := (five_of BQT.out).1
                      have hw1 : IntKind.i64.wrap (n0 + 1) = n0 + 1 := by rw [IntKind.wrap_i64]; omega
                      have S1 := OT.out.set (g' := (⟨x, n0 + 1, P, hd⟩, vv)) (k := 2) (u := .int .i64 (n0 + 1)) (by omega) (by unfold gc; simp) rfl rfl
                      have S2 := S1.1.set (g' := (⟨x, n0 + 1, P, ticks⟩, vv)) (k := 3) (u := .int .i64 0) (by omega) (by unfold gc; simp) rfl rfl
                      rw [HGL.out] at S1 S2
                      have O2 := Lib.hid S2.1
                      have BQ2 := Lib.hid (S2.2.heap (by simp) (S1.2.heap (by simp) BQT.out))
                      have BP2 := Lib.hid (S2.2.heap (by simp) (S1.2.heap (by simp) BPT.out))
                      clear S1 S2

                      go_upto_region 38 with fail
                      generalize hy0 : (wc.setCell ⟨gb, kk * 4 + 2, none⟩ (.int .i64 (n0 + 1))).setCell ⟨gb, kk * 4 + 3, none⟩ (.int .i64 0) = y0 at *
                      clear hy0 k1 k2 k3 fr ck OT BQT BPT hw1
                      obtain ⟨-, k1, -, -, -⟩ := O2.out.cells (i := kk) (g := (⟨x, n0 + 1, P, ticks⟩, vv)) (by rw [← HGL.out]; simp)
                      obtain ⟨av, cv, hvv⟩ : ∃ av cv, vv = .slice av P.length cv := by
                        obtain ⟨wl, hg⟩ := O2.out.gw
                        exact row_slice (hg.rows (⟨x, n0 + 1, P, ticks⟩, vv) (by simp))
                      obtain ⟨pl, hpl⟩ : ∃ pl, pl = P.length := ⟨_, rfl⟩
                      have HPL := Lib.hid hpl
                      rw [← hpl] at hvv
                      subst hvv
                      clear hpl
                      dsimp only at k1
                      have hqpg : qp ≠ gb := O2.out.apart (by simp)
                      have RV : Hid (y0.ownsRow 0 28 2 (.slice av pl cv) pl (pcells P)) := Lib.hid (by
                        obtain ⟨wl, hg⟩ := O2.out.gw
                        have := hg.rows (⟨x, n0 + 1, P, ticks⟩, .slice av pl cv) (by simp)
                        rw [← HPL.out] at this
                        exact this)
                      have QPV : Hid (qp ∉ (Value.slice av pl cv).ownBlock.toList ∧ gb ∉ (Value.slice av pl cv).ownBlock.toList) := Lib.hid (by
                        obtain ⟨ow, wl, e1, e2, e3, e4, e5, e7, e6⟩ := O2.out
                        refine ⟨fun e => (e7 qp (by simp)).2.1 (e2.hrow (⟨x, n0 + 1, P, ticks⟩, .slice av pl cv) (by simp) _ (Option.mem_toList.1 e)), fun e => ?_⟩
                        obtain ⟨cs, hc⟩ := row_block e2.row (k := gb) rfl
                        obtain ⟨c2, hc2⟩ := row_block RV.out (Option.mem_toList.1 e)
                        exact ty_ne hc2 hc (by decide) rfl)
                      have TD := Lib.hid (Turn.drew [] y0)
                      have TA := Lib.hid ((Turn.alloc [] y0 (.cells #[.string u, .string v] 28)).trans (Turn.drew [] _) (by simp))
                      have HNW : Hid ((y0.alloc (.cells #[.string u, .string v] 28)).drew.heap[y0.heap.size]? = some (.cells #[.string u, .string v] 28)) := Lib.hid ((Turn.drew [] _).heap (heap_alloc_new y0 (.cells #[.string u, .string v] 28)) (by simp))
                      have HS : Hid (∀ y, Turn [] y0 y → y.cell? ⟨qp, 0, none⟩ = some (.string u) ∧ y.cell? ⟨qp, 1, none⟩ = some (.string v)) := Lib.hid (fun y ty => cell2_of (ty.heap BP2.out (by simp)))
                      have HT : Hid (∀ y, Turn [] y0 y → y.cell? ⟨gb, kk * 4 + 1, none⟩ = some (.slice av pl cv)) := Lib.hid (fun y ty => ty.cell k1 (by simp))
                      have hS : (fun y : World => y.cell? ⟨qp, 0, none⟩ = some (.string u) ∧ y.cell? ⟨qp, 1, none⟩ = some (.string v)) y0.drew := HS.out _ TD.out
                      have hT : (fun y : World => y.cell? ⟨gb, kk * 4 + 1, none⟩ = some (.slice av pl cv)) y0.drew := HT.out _ TD.out
                      clear k1
                      refine Pq.start [12] (fun y => y.cell? ⟨qp, 0, none⟩ = some (.string u) ∧ y.cell? ⟨qp, 1, none⟩ = some (.string v)) (fun y => y.cell? ⟨gb, kk * 4 + 1, none⟩ = some (.slice av pl cv)) (by kernel_rfl) ?_
                      dsimp only at hS hT
                      refine Pq.tk 0 (some 179) (v := ?_) hS ?_ ?_
                      rotate_left
                      · (intro y hy; go_simp; try with_reducible rfl)
                      simp only [Act.put, List.setIfInBounds_toArray, List.set_cons_zero, List.set_cons_succ]
                      refine Pq.tk 1 (some 180) (v := ?_) hS ?_ ?_
                      rotate_left
                      · (intro y hy; go_simp; try with_reducible rfl)
                      simp only [Act.put, List.setIfInBounds_toArray, List.set_cons_zero, List.set_cons_succ]
                      refine Pq.tk 2 (some 181) (v := ?_) hS ?_ ?_
                      rotate_left
                      · (intro y hy; go_simp; try with_reducible rfl)
                      simp only [Act.put, List.setIfInBounds_toArray, List.set_cons_zero, List.set_cons_succ]
                      refine Pq.tk 3 (some 182) (v := ?_) hS ?_ ?_
                      rotate_left
                      · (intro y hy; go_simp; try with_reducible rfl)
                      simp only [Act.put, List.setIfInBounds_toArray, List.set_cons_zero, List.set_cons_succ]
                      refine Pq.tk 4 (some 183) (v := ?_) hS ?_ ?_
                      rotate_left
                      · (intro y hy; go_simp; try with_reducible rfl)
                      simp only [Act.put, List.setIfInBounds_toArray, List.set_cons_zero, List.set_cons_succ]
                      refine Pq.tk 5 (some 184) (v := ?_) hS ?_ ?_
                      rotate_left
                      · (intro y hy; go_simp; try with_reducible rfl)
                      simp only [Act.put, List.setIfInBounds_toArray, List.set_cons_zero, List.set_cons_succ]
                      refine Pq.tk2 6 (some 185) (v := ?_) hS hT ?_ ?_
                      rotate_left
                      · (intro y hy; go_simp; try with_reducible rfl)
                      simp only [Act.put, List.setIfInBounds_toArray, List.set_cons_zero, List.set_cons_succ]
                      refine Pq.tk 7 (some 186) (v := ?_) hS ?_ ?_
                      rotate_left
                      · (intro y hy; obtain ⟨z0, z1⟩ := hy; go_simp; try with_reducible rfl)
                      simp only [Act.put, List.setIfInBounds_toArray, List.set_cons_zero, List.set_cons_succ]

                      refine Pq.one (i := 8) (by kernel_rfl) rfl ?_
                      intro K0 hK
                      rw [if_pos (by rfl)]
                      go_simp
                      refine hK _ _ (HS.out _ TA.out) (.inr (fun _ => HT.out _ TA.out)) ?_
                      clear hK K0 hS hT
                      have R3 := Lib.hid (ownsRow_turn RV.out TA.out (by simp))
                      generalize (y0.alloc (.cells #[.string u, .string v] 28)).drew = y3 at *
                      obtain ⟨i0, hi, hz0, hz1, hz2⟩ := info_parts Tryz.putrow
                      refine Pq.one (i := 9) (by kernel_rfl) rfl ?_
                      intro K0 hK
                      refine step_append_src Tryz.underlying32 hi hz0 hz1 hz2 rfl (by decide) rfl (.tmp 185) (.tmp 187) rfl 0 (.slice av pl cv) pl (pcells P) rfl R3.out (Nat.zero_le _) _ 1 1 (pcells [(u, v)]) rfl (src_put HNW.out) (pcells_one _) (by have := HP10.out; have := HPL.out; omega) (by have := HP10.out; have := HPL.out; omega) (fun v4 y4 r4 g4 o4 => ?_)
                      obtain ⟨a4, d4, hv4⟩ := row_slice r4
                      subst hv4
                      have TG := Lib.hid (Turn.grown (l := (Value.slice av pl cv).ownBlock.toList) g4 (fun i hi => .inl (by simp [hi])))
                      have T4 := Lib.hid ((TA.out.mono (l' := (Value.slice av pl cv).ownBlock.toList) (by simp)).trans TG.out (fun i hi => .inl hi))
                      have R4 : Hid (y4.ownsRow 0 28 2 (.slice a4 (pl + 1) d4) (P ++ [(u, v)]).length (pcells (P ++ [(u, v)]))) := Lib.hid (by rw [List.length_append, pcells_append, ← HPL.out]; exact r4)
                      have O4 : Hid ((Value.slice a4 (pl + 1) d4).ownBlock = (Value.slice av pl cv).ownBlock ∨ ∀ k, (Value.slice a4 (pl + 1) d4).ownBlock = some k → y0.heap.size ≤ k) := Lib.hid (by
                        rcases o4 with e | e
                        · exact .inl e
                        · refine .inr (fun k hk => ?_)
                          rw [e] at hk
                          cases hk
                          exact TA.out.size)

                      have k4 : y4.cell? ⟨gb, kk * 4 + 1, none⟩ = some (.slice av pl cv) := T4.out.cell (HT.out y0 (Turn.refl _ _)) QPV.out.2
                      have fr4 : ∀ j, y4.frozen? ⟨gb, j, none⟩ = false := fun j => by
                        obtain ⟨wl, hg⟩ := O2.out.gw
                        obtain ⟨cs, hc⟩ := row_block hg.row (k := gb) rfl
                        exact unfrozen_of (T4.out.heap hc QPV.out.2)
                      have hS4 : (fun y : World => y.cell? ⟨qp, 0, none⟩ = some (.string u) ∧ y.cell? ⟨qp, 1, none⟩ = some (.string v)) y4 := ⟨T4.out.cell (HS.out y0 (Turn.refl _ _)).1 QPV.out.1, T4.out.cell (HS.out y0 (Turn.refl _ _)).2 QPV.out.1⟩
                      refine hK _ _ hS4 (.inr (fun _ => k4)) ?_
                      clear hK K0 r4 g4 o4 hi hz0 hz1 hz2
                      dsimp only at hS4
                      refine Pq.tk 10 (some 189) (v := ?_) hS4 ?_ ?_
                      rotate_left
                      · (intro y hy; go_simp; try with_reducible rfl)
                      refine Pq.tk 11 (some 190) (v := ?_) hS4 ?_ ?_
                      rotate_left
                      · (intro y hy; go_simp; try with_reducible rfl)
                      refine Pq.one (i := 12) (by kernel_rfl) rfl ?_
                      intro K0 hK
                      rw [if_pos (by rfl)]
                      go_simp
                      have TS := Lib.hid (Turn.setCell (l := [gb]) (b := gb) (i := kk * 4 + 1) y4 (by simp) (.slice a4 (pl + 1) d4))
                      refine hK _ _ ⟨TS.out.cell hS4.1 (by simpa using hqpg), TS.out.cell hS4.2 (by simpa using hqpg)⟩ (.inl (by simp)) ?_
                      have OD := Lib.hid ((O2.out.mine (w' := y4.setCell ⟨gb, kk * 4 + 1, none⟩ (.slice a4 (pl + 1) d4)) (t' := ticks) (vw' := .slice (some ⟨gb, 0, none⟩) mm cc) (G' := GA ++ (⟨x, n0 + 1, P ++ [(u, v)], ticks⟩, .slice a4 (pl + 1) d4) :: GBl) (fun wl hg => ⟨_, by
                        have h := (hg.setPuts (q' := ⟨x, n0 + 1, P ++ [(u, v)], ticks⟩) T4.out ⟨rfl, rfl, rfl⟩ R4.out O4.out).1
                        rw [HGL.out] at h
                        exact h, Stp.of (l := gb :: (Value.slice av pl cv).ownBlock.toList) ((T4.out.mono (fun i hi => .inl (List.mem_cons_of_mem _ hi))).trans (Turn.setCell y4 (by simp) _) (fun i hi => .inl hi)) (fun k hk => by
                          rcases List.mem_cons.1 hk with rfl | hk
                          · exact hg.hw _ rfl
                          · exact hg.hrow (⟨x, n0 + 1, P, ticks⟩, .slice av pl cv) (by simp) _ (Option.mem_toList.1 hk)) (fun k hk => by
                          rcases O4.out with e | e
                          · exact .inl (hg.hrow (⟨x, n0 + 1, P, ticks⟩, .slice av pl cv) (by simp) _ (by rw [← e]; exact hk))
                          · exact .inr (e k hk))⟩)).1.less (el' := []) (by simp))
                      have HGN : Hid ((GA ++ (⟨x, n0 + 1, P ++ [(u, v)], ticks⟩, .slice a4 (pl + 1) d4) :: GBl).map Prod.fst = A ++ ⟨x, n0 + 1, P ++ [(u, v)], ticks⟩ :: Bl) := Lib.hid (by rw [List.map_append, List.map_cons, HGA.out, HGB.out])
                      clear hK K0 fr4 k4 hS4
                      refine Pq.done (by kernel_rfl) ?_ _
                      go_wp2_with fail
                      go_roundw
                      case rel => exact ⟨k + 1, nm + 1, ticks, _, _, HK1.out, HK2.out, by have := HNB.out; omega, by have := HTK.out; omega, by go_num, (fun y hy => (mem_mid' hy).elim (fun e => by rw [e]; have h1 := HX.out; have h2 := HPN.out; refine ⟨h1.1, h1.2, ?_⟩; (show (((P ++ [(u, v)]).length : Nat) : Int) ≤ n0 + 1); rw [List.length_append, List.length_singleton]; omega) (fun h => HAB.out y h)), HGN.out, OD.out⟩
                      case measure => have := HK2.out; simp [intOf]; omega
                  | true =>
                    obtain ⟨q, B, hRq, hqx⟩ : ∃ q B, R = q :: B ∧ q.tid = x := by
                      rcases HIN.out with ⟨-, h⟩ | ⟨h, -⟩
                      · exact h
                      · cases h
                    obtain ⟨g, GB, hGRq, hg1, hg2⟩ := List.map_eq_cons_iff.1 (HGR.out.trans hRq)
                    have HG3 : Hid (G = GA ++ g :: GB) := Lib.hid (by rw [HG.out, hGRq])
                    have HQ3 : Hid (Q = A ++ q :: B) := Lib.hid (by rw [HQS.out, hRq])
                    obtain ⟨gb, haw⟩ : ∃ gb, aw = some ⟨gb, 0, none⟩ := by
                      obtain ⟨wl, hg⟩ := OB.out.gw
                      exact row_addr hg.row (by rw [HG3.out]; simp; omega)
                    have hb : 0 ≤ (kk : Int) ∧ (kk : Int) < (m : Int) := by
                      have h1 := HM.out
                      have h2 := HK.out
                      rw [HG3.out] at h1
                      simp at h1
                      omega
                    have HGK : Hid (G[kk]? = some g) := Lib.hid (by rw [HG3.out, HK.out]; simp)
                    have HG1 := Lib.hid hg1
                    have HG2 := Lib.hid hg2
                    have HQX := Lib.hid hqx
                    have HRQ := Lib.hid hRq
                    subst haw
                    have hri := OB.out.ls.choose_spec.ris
                    rw [HQ3.out] at hri
                    have HA2 : Hid (∀ a ∈ A, a.tid < q.tid) := Lib.hid hri.mid.1
                    have HB2 : Hid (∀ c ∈ B, q.tid < c.tid) := Lib.hid hri.mid.2
                    have hnum := OB.out.ls.choose_spec.num q (by rw [HQ3.out]; simp)
                    clear hRq hqx hGRq hg1 hg2 hri
                    obtain ⟨qx, n0, P, hd⟩ := q
                    obtain ⟨gq, vv⟩ := g
                    dsimp only at HQX HG1 HA2 HB2 hnum
                    obtain rfl : x = qx := HQX.out.symm
                    obtain rfl : gq = ⟨x, n0, P, hd⟩ := HG1.out
                    have HPN : Hid ((P.length : Int) ≤ n0) := Lib.hid (H5.out ⟨x, n0, P, hd⟩ (by rw [HQ3.out]; simp)).2.2
                    obtain ⟨-, -, c2, -, -⟩ := OB.out.cells HGK.out
                    dsimp only at c2
                    obtain ⟨p0, p1⟩ := cell2_of BP.out
                    obtain ⟨hnx, hn00, hn10, -⟩ := hnum
                    by_cases hnt : n0 = 10
                    · have C := Lib.hid (OB.out.call (nm' := nm) (ticks' := ticks) (Q' := Q) (f := 15) (args := #[.pointer (some ⟨b, 0, none⟩), .int .i64 x, .agg #[.string u, .string v]]) (R := fun e _ => e = .returned (.bool false)) (fun ow h => by
                        refine (put_full h (A := A) (B := B) (P := P) (.inr ⟨hd, by rw [← hnt]; exact HQ3.out⟩) (by unfold inI64; omega) HA2.out HB2.out u v).mono ?_
                        rintro e w' ⟨rfl, t⟩
                        exact ⟨ow, rfl, h.turn t (by simp), Stp.quiet t⟩))
                      have hlt : ¬ n0 < 10 := by omega
                      clear hnt
                      go_wp2_with fail
                      refine C.out.mono ?_
                      rintro e wd ⟨rfl, hbo, hoff⟩
                      have OD := Lib.hid (hbo.less (el' := []) (by simp))
                      have BQ1 := Lib.hid (hoff.heap (by simp) BQ.out)
                      have ck := (five_of BQ1.out).1
                      clear hbo hoff C c0 c2 p0 p1
                      go_wp2_with fail
                      go_roundw
                      case rel => exact ⟨k + 1, nm, ticks, Q, G, HK1.out, HK2.out, by have := HNB.out; omega, by have := HTK.out; omega, by go_num, H5.out, HGQ.out, OD.out⟩
                      case measure => have := HK2.out; simp [intOf]; omega
                    · have C := Lib.hid (OB.out.call (nm' := nm + 1) (ticks' := ticks) (Q' := A ++ ⟨x, n0 + 1, P ++ [(u, v)], ticks⟩ :: B) (f := 15) (args := #[.pointer (some ⟨b, 0, none⟩), .int .i64 x, .agg #[.string u, .string v]]) (R := fun e _ => e = .returned (.bool true)) (fun ow h => by
                        refine (put_on h (A := A) (B := B) (n := n0) (P := P) (.inr ⟨hd, HQ3.out⟩) (by unfold inI64; omega) HA2.out HB2.out (by omega) (by have := HPN.out; omega) (by have := HNB.out; have := HK2.out; omega) u v (by have := HZU.out; omega) (by have := HZV.out; omega)).mono ?_
                        rintro e w' ⟨ow', rfl, h2, s2⟩
                        exact ⟨ow', rfl, h2, s2⟩))
                      have hlt : n0 < 10 := by omega
                      clear hnt
                      go_wp2_with fail
                      refine C.out.mono ?_
                      rintro e wt ⟨rfl, hbo, hoff⟩
                      rw [HG3.out] at hbo
                      have BQT := Lib.hid (hoff.heap (by simp) BQ.out)
                      have BPT := Lib.hid (hoff.heap (by simp) BP.out)
                      have OT := Lib.hid hbo
                      have hn9 : 0 ≤ n0 ∧ n0 ≤ 9 := by omega
                      have HP10 : Hid (P.length ≤ 9) := Lib.hid (by have := HPN.out; omega)
                      have HGL : Hid (GA.length = kk) := Lib.hid HK.out.symm
                      obtain ⟨mm, hmm⟩ : ∃ mm, mm = m := ⟨_, rfl⟩
                      obtain ⟨cc, hcc⟩ : ∃ cc, cc = cw := ⟨_, rfl⟩
                      rw [← hmm] at hb OT
                      rw [← hcc] at OT
                      rw [← hmm, ← hcc]
                      obtain ⟨GBl, hGBl⟩ : ∃ G, G = GB := ⟨_, rfl⟩
                      obtain ⟨Bl, hBl⟩ : ∃ G, G = B := ⟨_, rfl⟩
                      have HGB : Hid (GBl.map Prod.fst = Bl) := Lib.hid (by rw [hGBl, hBl]; exact HG2.out)
                      have HAB : Hid (∀ y ∈ A ++ Bl, 0 ≤ y.tid ∧ y.tid ≤ 4 ∧ (y.puts.length : Int) ≤ y.n) := Lib.hid (fun y hy => H5.out y (by rw [HQ3.out, ← hBl]; exact mem_mid hy))
                      rw [← hGBl, ← hBl] at OT
                      clear hbo hoff C c0 c2 p0 p1 hmm hcc hGBl hBl OB BQ BP hn00 hn10 hlt HG3 HGK
                      obtain ⟨-, k1, k2, k3, fr⟩ := OT.out.cells (i := kk) (g := (⟨x, n0, P, hd⟩, vv)) (by rw [← HGL.out]; simp)
                      have hqg : qo ≠ gb := OT.out.apart (by simp)
                      have ck := (five_of BQT.out).1
                      have hw1 : IntKind.i64.wrap (n0 + 1) = n0 + 1 := by rw [IntKind.wrap_i64]; omega
                      have S1 := OT.out.set (g' := (⟨x, n0 + 1, P, hd⟩, vv)) (k := 2) (u := .int .i64 (n0 + 1)) (by omega) (by unfold gc; simp) rfl rfl
                      have S2 := S1.1.set (g' := (⟨x, n0 + 1, P, ticks⟩, vv)) (k := 3) (u := .int .i64 0) (by omega) (by unfold gc; simp) rfl rfl
                      rw [HGL.out] at S1 S2
                      have O2 := Lib.hid S2.1
                      have BQ2 := Lib.hid (S2.2.heap (by simp) (S1.2.heap (by simp) BQT.out))
                      have BP2 := Lib.hid (S2.2.heap (by simp) (S1.2.heap (by simp) BPT.out))
                      clear S1 S2

                      go_upto_region 38 with fail
                      generalize hy0 : (wt.setCell ⟨gb, kk * 4 + 2, none⟩ (.int .i64 (n0 + 1))).setCell ⟨gb, kk * 4 + 3, none⟩ (.int .i64 0) = y0 at *
                      clear hy0 k1 k2 k3 fr ck OT BQT BPT hw1
                      obtain ⟨-, k1, -, -, -⟩ := O2.out.cells (i := kk) (g := (⟨x, n0 + 1, P, ticks⟩, vv)) (by rw [← HGL.out]; simp)
                      obtain ⟨av, cv, hvv⟩ : ∃ av cv, vv = .slice av P.length cv := by
                        obtain ⟨wl, hg⟩ := O2.out.gw
                        exact row_slice (hg.rows (⟨x, n0 + 1, P, ticks⟩, vv) (by simp))
                      obtain ⟨pl, hpl⟩ : ∃ pl, pl = P.length := ⟨_, rfl⟩
                      have HPL := Lib.hid hpl
                      rw [← hpl] at hvv
                      subst hvv
                      clear hpl
                      dsimp only at k1
                      have hqpg : qp ≠ gb := O2.out.apart (by simp)
                      have RV : Hid (y0.ownsRow 0 28 2 (.slice av pl cv) pl (pcells P)) := Lib.hid (by
                        obtain ⟨wl, hg⟩ := O2.out.gw
                        have := hg.rows (⟨x, n0 + 1, P, ticks⟩, .slice av pl cv) (by simp)
                        rw [← HPL.out] at this
                        exact this)
                      have QPV : Hid (qp ∉ (Value.slice av pl cv).ownBlock.toList ∧ gb ∉ (Value.slice av pl cv).ownBlock.toList) := Lib.hid (by
                        obtain ⟨ow, wl, e1, e2, e3, e4, e5, e7, e6⟩ := O2.out
                        refine ⟨fun e => (e7 qp (by simp)).2.1 (e2.hrow (⟨x, n0 + 1, P, ticks⟩, .slice av pl cv) (by simp) _ (Option.mem_toList.1 e)), fun e => ?_⟩
                        obtain ⟨cs, hc⟩ := row_block e2.row (k := gb) rfl
                        obtain ⟨c2, hc2⟩ := row_block RV.out (Option.mem_toList.1 e)
                        exact ty_ne hc2 hc (by decide) rfl)
                      have TD := Lib.hid (Turn.drew [] y0)
                      have TA := Lib.hid ((Turn.alloc [] y0 (.cells #[.string u, .string v] 28)).trans (Turn.drew [] _) (by simp))
                      have HNW : Hid ((y0.alloc (.cells #[.string u, .string v] 28)).drew.heap[y0.heap.size]? = some (.cells #[.string u, .string v] 28)) := Lib.hid ((Turn.drew [] _).heap (heap_alloc_new y0 (.cells #[.string u, .string v] 28)) (by simp))
                      have HS : Hid (∀ y, Turn [] y0 y → y.cell? ⟨qp, 0, none⟩ = some (.string u) ∧ y.cell? ⟨qp, 1, none⟩ = some (.string v)) := Lib.hid (fun y ty => cell2_of (ty.heap BP2.out (by simp)))
                      have HT : Hid (∀ y, Turn [] y0 y → y.cell? ⟨gb, kk * 4 + 1, none⟩ = some (.slice av pl cv)) := Lib.hid (fun y ty => ty.cell k1 (by simp))
                      have hS : (fun y : World => y.cell? ⟨qp, 0, none⟩ = some (.string u) ∧ y.cell? ⟨qp, 1, none⟩ = some (.string v)) y0.drew := HS.out _ TD.out
                      have hT : (fun y : World => y.cell? ⟨gb, kk * 4 + 1, none⟩ = some (.slice av pl cv)) y0.drew := HT.out _ TD.out
                      clear k1
                      refine Pq.start [12] (fun y => y.cell? ⟨qp, 0, none⟩ = some (.string u) ∧ y.cell? ⟨qp, 1, none⟩ = some (.string v)) (fun y => y.cell? ⟨gb, kk * 4 + 1, none⟩ = some (.slice av pl cv)) (by kernel_rfl) ?_
                      dsimp only at hS hT
                      refine Pq.tk 0 (some 179) (v := ?_) hS ?_ ?_
                      rotate_left
                      · (intro y hy; go_simp; try with_reducible rfl)
                      simp only [Act.put, List.setIfInBounds_toArray, List.set_cons_zero, List.set_cons_succ]
                      refine Pq.tk 1 (some 180) (v := ?_) hS ?_ ?_
                      rotate_left
                      · (intro y hy; go_simp; try with_reducible rfl)
                      simp only [Act.put, List.setIfInBounds_toArray, List.set_cons_zero, List.set_cons_succ]
                      refine Pq.tk 2 (some 181) (v := ?_) hS ?_ ?_
                      rotate_left
                      · (intro y hy; go_simp; try with_reducible rfl)
                      simp only [Act.put, List.setIfInBounds_toArray, List.set_cons_zero, List.set_cons_succ]
                      refine Pq.tk 3 (some 182) (v := ?_) hS ?_ ?_
                      rotate_left
                      · (intro y hy; go_simp; try with_reducible rfl)
                      simp only [Act.put, List.setIfInBounds_toArray, List.set_cons_zero, List.set_cons_succ]
                      refine Pq.tk 4 (some 183) (v := ?_) hS ?_ ?_
                      rotate_left
                      · (intro y hy; go_simp; try with_reducible rfl)
                      simp only [Act.put, List.setIfInBounds_toArray, List.set_cons_zero, List.set_cons_succ]
                      refine Pq.tk 5 (some 184) (v := ?_) hS ?_ ?_
                      rotate_left
                      · (intro y hy; go_simp; try with_reducible rfl)
                      simp only [Act.put, List.setIfInBounds_toArray, List.set_cons_zero, List.set_cons_succ]
                      refine Pq.tk2 6 (some 185) (v := ?_) hS hT ?_ ?_
                      rotate_left
                      · (intro y hy; go_simp; try with_reducible rfl)
                      simp only [Act.put, List.setIfInBounds_toArray, List.set_cons_zero, List.set_cons_succ]
                      refine Pq.tk 7 (some 186) (v := ?_) hS ?_ ?_
                      rotate_left
                      · (intro y hy; obtain ⟨z0, z1⟩ := hy; go_simp; try with_reducible rfl)
                      simp only [Act.put, List.setIfInBounds_toArray, List.set_cons_zero, List.set_cons_succ]

                      refine Pq.one (i := 8) (by kernel_rfl) rfl ?_
                      intro K0 hK
                      rw [if_pos (by rfl)]
                      go_simp
                      refine hK _ _ (HS.out _ TA.out) (.inr (fun _ => HT.out _ TA.out)) ?_
                      clear hK K0 hS hT
                      have R3 := Lib.hid (ownsRow_turn RV.out TA.out (by simp))
                      generalize (y0.alloc (.cells #[.string u, .string v] 28)).drew = y3 at *
                      obtain ⟨i0, hi, hz0, hz1, hz2⟩ := info_parts Tryz.putrow
                      refine Pq.one (i := 9) (by kernel_rfl) rfl ?_
                      intro K0 hK
                      refine step_append_src Tryz.underlying32 hi hz0 hz1 hz2 rfl (by decide) rfl (.tmp 185) (.tmp 187) rfl 0 (.slice av pl cv) pl (pcells P) rfl R3.out (Nat.zero_le _) _ 1 1 (pcells [(u, v)]) rfl (src_put HNW.out) (pcells_one _) (by have := HP10.out; have := HPL.out; omega) (by have := HP10.out; have := HPL.out; omega) (fun v4 y4 r4 g4 o4 => ?_)
                      obtain ⟨a4, d4, hv4⟩ := row_slice r4
                      subst hv4
                      have TG := Lib.hid (Turn.grown (l := (Value.slice av pl cv).ownBlock.toList) g4 (fun i hi => .inl (by simp [hi])))
                      have T4 := Lib.hid ((TA.out.mono (l' := (Value.slice av pl cv).ownBlock.toList) (by simp)).trans TG.out (fun i hi => .inl hi))
                      have R4 : Hid (y4.ownsRow 0 28 2 (.slice a4 (pl + 1) d4) (P ++ [(u, v)]).length (pcells (P ++ [(u, v)]))) := Lib.hid (by rw [List.length_append, pcells_append, ← HPL.out]; exact r4)
                      have O4 : Hid ((Value.slice a4 (pl + 1) d4).ownBlock = (Value.slice av pl cv).ownBlock ∨ ∀ k, (Value.slice a4 (pl + 1) d4).ownBlock = some k → y0.heap.size ≤ k) := Lib.hid (by
                        rcases o4 with e | e
                        · exact .inl e
                        · refine .inr (fun k hk => ?_)
                          rw [e] at hk
                          cases hk
                          exact TA.out.size)

                      have k4 : y4.cell? ⟨gb, kk * 4 + 1, none⟩ = some (.slice av pl cv) := T4.out.cell (HT.out y0 (Turn.refl _ _)) QPV.out.2
                      have fr4 : ∀ j, y4.frozen? ⟨gb, j, none⟩ = false := fun j => by
                        obtain ⟨wl, hg⟩ := O2.out.gw
                        obtain ⟨cs, hc⟩ := row_block hg.row (k := gb) rfl
                        exact unfrozen_of (T4.out.heap hc QPV.out.2)
                      have hS4 : (fun y : World => y.cell? ⟨qp, 0, none⟩ = some (.string u) ∧ y.cell? ⟨qp, 1, none⟩ = some (.string v)) y4 := ⟨T4.out.cell (HS.out y0 (Turn.refl _ _)).1 QPV.out.1, T4.out.cell (HS.out y0 (Turn.refl _ _)).2 QPV.out.1⟩
                      refine hK _ _ hS4 (.inr (fun _ => k4)) ?_
                      clear hK K0 r4 g4 o4 hi hz0 hz1 hz2
                      dsimp only at hS4
                      refine Pq.tk 10 (some 189) (v := ?_) hS4 ?_ ?_
                      rotate_left
                      · (intro y hy; go_simp; try with_reducible rfl)
                      refine Pq.tk 11 (some 190) (v := ?_) hS4 ?_ ?_
                      rotate_left
                      · (intro y hy; go_simp; try with_reducible rfl)
                      refine Pq.one (i := 12) (by kernel_rfl) rfl ?_
                      intro K0 hK
                      rw [if_pos (by rfl)]
                      go_simp
                      have TS := Lib.hid (Turn.setCell (l := [gb]) (b := gb) (i := kk * 4 + 1) y4 (by simp) (.slice a4 (pl + 1) d4))
                      refine hK _ _ ⟨TS.out.cell hS4.1 (by simpa using hqpg), TS.out.cell hS4.2 (by simpa using hqpg)⟩ (.inl (by simp)) ?_
                      have OD := Lib.hid ((O2.out.mine (w' := y4.setCell ⟨gb, kk * 4 + 1, none⟩ (.slice a4 (pl + 1) d4)) (t' := ticks) (vw' := .slice (some ⟨gb, 0, none⟩) mm cc) (G' := GA ++ (⟨x, n0 + 1, P ++ [(u, v)], ticks⟩, .slice a4 (pl + 1) d4) :: GBl) (fun wl hg => ⟨_, by
                        have h := (hg.setPuts (q' := ⟨x, n0 + 1, P ++ [(u, v)], ticks⟩) T4.out ⟨rfl, rfl, rfl⟩ R4.out O4.out).1
                        rw [HGL.out] at h
                        exact h, Stp.of (l := gb :: (Value.slice av pl cv).ownBlock.toList) ((T4.out.mono (fun i hi => .inl (List.mem_cons_of_mem _ hi))).trans (Turn.setCell y4 (by simp) _) (fun i hi => .inl hi)) (fun k hk => by
                          rcases List.mem_cons.1 hk with rfl | hk
                          · exact hg.hw _ rfl
                          · exact hg.hrow (⟨x, n0 + 1, P, ticks⟩, .slice av pl cv) (by simp) _ (Option.mem_toList.1 hk)) (fun k hk => by
                          rcases O4.out with e | e
                          · exact .inl (hg.hrow (⟨x, n0 + 1, P, ticks⟩, .slice av pl cv) (by simp) _ (by rw [← e]; exact hk))
                          · exact .inr (e k hk))⟩)).1.less (el' := []) (by simp))
                      have HGN : Hid ((GA ++ (⟨x, n0 + 1, P ++ [(u, v)], ticks⟩, .slice a4 (pl + 1) d4) :: GBl).map Prod.fst = A ++ ⟨x, n0 + 1, P ++ [(u, v)], ticks⟩ :: Bl) := Lib.hid (by rw [List.map_append, List.map_cons, HGA.out, HGB.out])
                      clear hK K0 fr4 k4 hS4
                      refine Pq.done (by kernel_rfl) ?_ _
                      go_wp2_with fail
                      go_roundw
                      case rel => exact ⟨k + 1, nm + 1, ticks, _, _, HK1.out, HK2.out, by have := HNB.out; omega, by have := HTK.out; omega, by go_num, (fun y hy => (mem_mid' hy).elim (fun e => by rw [e]; have h1 := HX.out; have h2 := HPN.out; refine ⟨h1.1, h1.2, ?_⟩; (show (((P ++ [(u, v)]).length : Nat) : Int) ≤ n0 + 1); rw [List.length_append, List.length_singleton]; omega) (fun h => HAB.out y h)), HGN.out, OD.out⟩
                      case measure => have := HK2.out; simp [intOf]; omega
                by_cases h1 : kd = 1
                · subst h1
                  cases inB with
                  | false =>
                    have hB : ∀ r ∈ R, x < r.tid := by
                      rcases HIN.out with ⟨h, -⟩ | ⟨-, h⟩
                      · cases h
                      · exact h
                    have HB9 := Lib.hid hB
                    have C := Lib.hid (OB.out.call (nm' := nm + 1) (ticks' := ticks) (Q' := A ++ ⟨x, 0 + 1, [], ticks⟩ :: R) (f := 16) (args := #[.pointer (some ⟨b, 0, none⟩), .int .i64 x]) (R := fun e _ => e = .returned (.bool true)) (fun ow h => by
                      refine (took_on h (A := A) (B := R) (n := 0) (P := []) (.inl ⟨HQS.out, rfl, rfl, (by have := short_Q h.ris (fun q hq => ⟨(H5.out q hq).1, (H5.out q hq).2.1⟩); omega)⟩) (by unfold inI64; omega) HA.out hB (by omega) (by simp) (by have := HNB.out; have := HK2.out; omega)).mono ?_
                      rintro e w' ⟨ow', rfl, h2, s2⟩
                      exact ⟨ow', rfl, h2, s2⟩))
                    obtain ⟨p0, p1⟩ := cell2_of BP.out
                    clear hB
                    go_wp2_with fail
                    refine C.out.mono ?_
                    rintro e wd ⟨rfl, hbo, hoff⟩
                    have OE := Lib.hid hbo
                    have BQ1 := Lib.hid (hoff.heap (by simp) BQ.out)
                    have BP1 := Lib.hid (hoff.heap (by simp) BP.out)
                    have ck := (five_of BQ1.out).1
                    clear hbo hoff C c0 p0 p1 OB BQ BP
                    go_upto_region 33 with fail
                    clear ck
                    go_cut [5] from 149 to 162 (fun v5 wx => ∃ g3 k3, v5 = .slice (some ⟨g3, 0, none⟩) (m + 1) k3 ∧ Bo w wx [qo, qp] b (nm + 1) ticks (A ++ ⟨x, 0 + 1, [], ticks⟩ :: R) ticks v5 (GA ++ (⟨x, 0, [], ticks⟩, .slice none 0 0) :: GR) ∧ wx.heap[qo]? = some (.cells #[.int .i64 1, .int .i64 tt, .int .i64 uu, .string sq, .string sb] 30) ∧ wx.heap[qp]? = some (.cells #[.string u, .string v] 28))
                    case first => as_aux_lemma =>
                      have HLEN : Hid (GA.length = kk ∧ GR.length = m - kk) := Lib.hid (by
                        have h1 := HM.out
                        have h2 := HK.out
                        rw [HG.out, List.length_append] at h1
                        omega)
                      have HMK : Hid (kk ≤ m) := Lib.hid hKm
                      have ONES : Hid ((∀ u ∈ GA.flatMap (gc ticks), u.oneCell' = true) ∧ ∀ u ∈ GR.flatMap (gc ticks), u.oneCell' = true) := Lib.hid (by
                        obtain ⟨wl, hg⟩ := OE.out.gw
                        have := ones_gc hg
                        rw [HG.out, List.flatMap_append] at this
                        exact ⟨fun u hu => this u (List.mem_append.2 (.inl hu)), fun u hu => this u (List.mem_append.2 (.inr hu))⟩)
                      obtain ⟨i0, hi, hz0, hz1, hz2⟩ := info_parts Tryz.gorow
                      have HI0 := Lib.hid (And.intro hi (And.intro hz0 (And.intro hz1 hz2)))
                      clear hi hz0 hz1 hz2
                      have TD := Lib.hid (Turn.drew [] wd)
                      have hS : True := trivial
                      obtain ⟨hlm, hmc, hcm⟩ := OE.out.len
                      rcases hawc : aw with _ | av0
                      focus
                        have hnn : G.length = 0 ∧ m = 0 ∧ cw = 0 := by
                          obtain ⟨wl, hg⟩ := OE.out.gw
                          have h := hg.row
                          rw [hawc] at h
                          exact row_none h
                        obtain ⟨hg0, hm0, hc0⟩ := hnn
                        have hk0 : kk = 0 := by have := HMK.out; omega
                        subst hawc
                        have HF : Hid (Src 4 wd none 0 0 (GA.flatMap (gc ticks))) := Lib.hid (.inl ⟨rfl, rfl, rfl, by rw [show GA = [] from List.eq_nil_of_length_eq_zero (by have := HLEN.out; omega)]; rfl⟩)
                        have HB : Hid (Src 4 wd none (0 - 0) 0 (GR.flatMap (gc ticks))) := Lib.hid (.inl ⟨rfl, rfl, rfl, by rw [show GR = [] from List.eq_nil_of_length_eq_zero (by have := HLEN.out; omega)]; rfl⟩)
                        subst hm0 hc0 hk0
                        clear hlm hmc hcm hg0
                        refine Pq.start [] (fun _ => True) (fun _ => True) (by kernel_rfl) ?_
                      rotate_left
                      focus
                        obtain ⟨gb0, hav0⟩ : ∃ g, av0 = ⟨g, 0, none⟩ := by
                          obtain ⟨wl, hg⟩ := OE.out.gw
                          have h := hg.row
                          rw [hawc] at h
                          rcases h.2 with ⟨e, h0⟩ | ⟨g, cap, cur, e, -⟩
                          · injection e with e1
                            cases e1
                          · injection e with e1
                            injection e1 with e1
                            exact ⟨g, e1⟩
                        subst hav0
                        subst hawc
                        have HF : Hid (Src 4 wd (some ⟨gb0, 0, none⟩) kk cw (GA.flatMap (gc ticks))) := Lib.hid (by
                          obtain ⟨wl, hg⟩ := OE.out.gw
                          rw [HG.out] at hg
                          have := hg.front (by simp)
                          rw [HLEN.out.1] at this
                          exact this)
                        obtain ⟨A2, hA2⟩ : ∃ a2 : Option Addr, a2 = (if cw = kk then some ⟨gb0, 0, none⟩ else some ⟨gb0, kk * 4, none⟩) := ⟨_, rfl⟩
                        have HB : Hid (Src 4 wd A2 (m - kk) (cw - kk) (GR.flatMap (gc ticks))) := Lib.hid (by
                          obtain ⟨wl, hg⟩ := OE.out.gw
                          rw [hA2, ← HLEN.out.2]
                          split
                          · next e =>
                            have e3 : GR = [] := List.eq_nil_of_length_eq_zero (by have := HLEN.out; omega)
                            rw [e3]
                            exact .inr ⟨_, rfl, rfl, fun j u hj => by simp at hj⟩
                          · rw [HG.out] at hg
                            exact hg.back _ _ HLEN.out.1.symm)
                        replace hA2 := hA2.symm
                        have hkc : kk ≤ cw := by have := HMK.out; omega
                        have hbn : 0 ≤ (kk : Int) ∧ (kk : Int) ≤ (m : Int) := by have := HMK.out; omega
                        clear hlm
                        refine Pq.start [] (fun _ => True) (fun _ => True) (by kernel_rfl) ?_
                      all_goals
                        refine Pq.tk 0 (some 151) (v := ?_) hS ?_ ?_
                        rotate_left
                        · (intro y hy; go_simp; try with_reducible rfl)
                        simp only [Act.put, List.setIfInBounds_toArray, List.set_cons_zero, List.set_cons_succ]
                        refine Pq.tk 1 (some 152) (v := ?_) hS ?_ ?_
                        rotate_left
                        · (intro y hy; go_simp; try with_reducible rfl)
                        simp only [Act.put, List.setIfInBounds_toArray, List.set_cons_zero, List.set_cons_succ]
                        refine Pq.tk 2 (some 153) (v := ?_) hS ?_ ?_
                        rotate_left
                        · (intro y hy; go_simp; try with_reducible rfl)
                        simp only [Act.put, List.setIfInBounds_toArray, List.set_cons_zero, List.set_cons_succ]
                        refine Pq.tk 4 (some 155) (v := ?_) hS ?_ ?_
                        rotate_left
                        · (intro y hy; go_simp; try with_reducible rfl)
                        simp only [Act.put, List.setIfInBounds_toArray, List.set_cons_zero, List.set_cons_succ]
                        refine Pq.tk 5 (some 156) (v := ?_) hS ?_ ?_
                        rotate_left
                        · (intro y hy; go_simp; try with_reducible rfl)
                        simp only [Act.put, List.setIfInBounds_toArray, List.set_cons_zero, List.set_cons_succ]
                        refine Pq.tk 8 (some 159) (v := ?_) hS ?_ ?_
                        rotate_left
                        · (intro y hy; go_simp; try with_reducible rfl)
                        simp only [Act.put, List.setIfInBounds_toArray, List.set_cons_zero, List.set_cons_succ]
                        refine Pq.tk 9 (some 160) (v := ?_) hS ?_ ?_
                        rotate_left
                        · (intro y hy; go_simp; try with_reducible rfl)
                        simp only [Act.put, List.setIfInBounds_toArray, List.set_cons_zero, List.set_cons_succ]
                        refine Pq.tk 10 (some 161) (v := ?_) hS ?_ ?_
                        rotate_left
                        · (intro y hy; go_simp; try with_reducible rfl)
                        simp only [Act.put, List.setIfInBounds_toArray, List.set_cons_zero, List.set_cons_succ]
                        refine Pq.two (i := 3) (j := 6) (by kernel_rfl) rfl rfl ?_ ?_
                        focus
                          intro K0 hK
                          refine step_append_src Tryz.underlying26 HI0.out.1 HI0.out.2.1 HI0.out.2.2.1 HI0.out.2.2.2 rfl (by decide) rfl (.const (.slice none 0 0)) (.tmp 153) rfl wd.heap.size (.slice none 0 0) 0 [] rfl (World.ownsRow_nil _ _ _ _) TD.out.size _ _ _ _ rfl (HF.out.turn TD.out) ONES.out.1 (by omega) (by omega) (fun v1 y3 r1 g1 o1 => ?_)
                          rw [Nat.zero_add, List.nil_append] at r1
                          have T3 := Lib.hid (TD.out.trans (Turn.grown (l := []) g1 (fun k hk => by simp [Value.ownBlock] at hk)) (by simp))
                          obtain ⟨p1, k1, hv1⟩ := row_slice r1
                          subst hv1
                          have R3 := Lib.hid r1
                          clear r1 g1 o1
                          refine hK _ _ trivial (.inr id) ?_
                          clear hK K0
                          refine Pq.one (i := 6) (by kernel_rfl) rfl ?_
                          intro K0 hK
                          rw [if_pos (by rfl)]
                          go_simp
                          have T4 := Lib.hid (T3.out.trans (Turn.alloc [] y3 (.cells #[.int .i64 x, .slice none 0 0, .int .i64 0, .int .i64 0] 34)) (by simp))
                          have R4 := Lib.hid (ownsRow_turn R3.out (Turn.alloc [] y3 (.cells #[.int .i64 x, .slice none 0 0, .int .i64 0, .int .i64 0] 34)) (by simp))
                          have HQN := Lib.hid (heap_alloc_new y3 (.cells #[.int .i64 x, .slice none 0 0, .int .i64 0, .int .i64 0] 34))
                          refine hK _ _ trivial (.inr id) ?_
                          clear hK K0 R3 T3
                          generalize y3.alloc (.cells #[.int .i64 x, .slice none 0 0, .int .i64 0, .int .i64 0] 34) = yy at *
                          generalize y3.heap.size = qn at *
                        rotate_left
                        focus
                          intro K0 hK
                          rw [if_pos (by rfl)]
                          go_simp
                          have T3 := Lib.hid ((Turn.alloc [] wd (.cells #[.int .i64 x, .slice none 0 0, .int .i64 0, .int .i64 0] 34)).trans (Turn.drew [] _) (by simp))
                          have HQ0 : Hid ((wd.alloc (.cells #[.int .i64 x, .slice none 0 0, .int .i64 0, .int .i64 0] 34)).drew.heap[wd.heap.size]? = some (.cells #[.int .i64 x, .slice none 0 0, .int .i64 0, .int .i64 0] 34)) := Lib.hid ((Turn.drew [] _).heap (heap_alloc_new wd (.cells #[.int .i64 x, .slice none 0 0, .int .i64 0, .int .i64 0] 34)) (by simp))
                          refine hK _ _ trivial (.inr id) ?_
                          clear hK K0
                          generalize (wd.alloc (.cells #[.int .i64 x, .slice none 0 0, .int .i64 0, .int .i64 0] 34)).drew = y3 at *
                          refine Pq.one (i := 3) (by kernel_rfl) rfl ?_
                          intro K0 hK
                          refine step_append_src Tryz.underlying26 HI0.out.1 HI0.out.2.1 HI0.out.2.2.1 HI0.out.2.2.2 rfl (by decide) rfl (.const (.slice none 0 0)) (.tmp 153) rfl wd.heap.size (.slice none 0 0) 0 [] rfl (World.ownsRow_nil _ _ _ _) T3.out.size _ _ _ _ rfl (HF.out.turn T3.out) ONES.out.1 (by omega) (by omega) (fun v1 yy r1 g1 o1 => ?_)
                          rw [Nat.zero_add, List.nil_append] at r1
                          have tg := Turn.grown (l := []) g1 (fun k hk => by simp [Value.ownBlock] at hk)
                          have T4 := Lib.hid (T3.out.trans tg (by simp))
                          have HQN := Lib.hid (tg.heap HQ0.out (by simp))
                          obtain ⟨p1, k1, hv1⟩ := row_slice r1
                          subst hv1
                          have R4 := Lib.hid r1
                          refine hK _ _ trivial (.inr id) ?_
                          clear hK K0 r1 g1 o1 tg HQ0 T3
                        all_goals
                          refine Pq.one (i := 7) (by kernel_rfl) rfl ?_
                          intro K0 hK
                          refine step_append_src Tryz.underlying26 HI0.out.1 HI0.out.2.1 HI0.out.2.2.1 HI0.out.2.2.2 rfl (by decide) rfl (.tmp 154) (.tmp 157) rfl wd.heap.size (.slice p1 _ k1) _ _ rfl R4.out T4.out.size _ 1 1 [.int .i64 x, .slice none 0 0, .int .i64 0, .int .i64 0] rfl (src_four HQN.out) (by intro u hu; simp at hu; rcases hu with rfl | rfl | rfl <;> rfl) (by omega) (by omega) (fun v2 y5 r2 g2 o2 => ?_)
                          have T6 := Lib.hid (own_turn13 R4.out T4.out (Nat.le_refl _) g2)
                          obtain ⟨p2, k2, hv2⟩ := row_slice r2
                          subst hv2
                          have R6 := Lib.hid r2
                          clear r2 g2 o2
                          refine hK _ _ trivial (.inr id) ?_
                          clear hK K0
                          refine Pq.one (i := 11) (by kernel_rfl) rfl ?_
                          intro K0 hK
                          refine step_append_src Tryz.underlying26 HI0.out.1 HI0.out.2.1 HI0.out.2.2.1 HI0.out.2.2.2 rfl (by decide) rfl (.tmp 158) (.tmp 161) rfl wd.heap.size (.slice p2 _ k2) _ _ rfl R6.out T6.out.size _ _ _ _ rfl (HB.out.turn T6.out) ONES.out.2 (by omega) (by omega) (fun v3 y6 r3 g3 o3 => ?_)
                          have T7 := Lib.hid (own_turn13 R6.out T6.out (Nat.le_refl _) g3)
                          obtain ⟨p3, k3, hv3⟩ := row_slice r3
                          subst hv3
                          have R7 := Lib.hid r3
                          clear r3 g3 o3
                          refine hK _ _ trivial (.inr id) ?_
                          clear hK K0
                          refine Pq.tk 12 (some 5) (v := ?_) hS ?_ ?_
                          rotate_left
                          · (intro y hy; go_simp; try with_reducible rfl)
                          refine Pq.done (by kernel_rfl) ?_ _
                          go_wp2_with fail
                          go_meet
                          obtain ⟨g3, hg3, hb3⟩ := ins_end (by rw [← HG.out]; exact OE.out) T7.out R7.out (by have := HMK.out; omega)
                          subst hg3
                          refine ⟨g3, k3, ?_, ?_, T7.out.heap BQ1.out (by simp), T7.out.heap BP1.out (by simp)⟩
                          · first | rfl | rw [show kk + 1 + (m - kk) = m + 1 by have := HMK.out; omega]
                          · first | exact hb3 | (rw [show kk + 1 + (m - kk) = m + 1 by have := HMK.out; omega]; exact hb3)
                    case rest => as_aux_lemma =>
                      obtain ⟨gb, cc, rfl, hbo, hq1, hq2⟩ := hcut
                      obtain ⟨n0, hn0⟩ : ∃ n0 : Int, n0 = 0 := ⟨_, rfl⟩
                      obtain ⟨P, hP⟩ : ∃ P : Pts, P = [] := ⟨_, rfl⟩
                      obtain ⟨mm, hmm⟩ : ∃ mm, mm = m + 1 := ⟨_, rfl⟩
                      obtain ⟨vv, hvv⟩ : ∃ vv, vv = Value.slice none 0 0 := ⟨_, rfl⟩
                      obtain ⟨hd, hhd⟩ : ∃ hd, hd = ticks := ⟨_, rfl⟩
                      rw [← hmm]
                      have hbo2 : Bo w wc [qo, qp] b (nm + 1) ticks (A ++ ⟨x, n0 + 1, P, ticks⟩ :: R) ticks (.slice (some ⟨gb, 0, none⟩) mm cc) (GA ++ (⟨x, n0, P, hd⟩, vv) :: GR) := by rw [hhd, hP, hn0, hmm, hvv]; exact hbo
                      have OT := Lib.hid hbo2
                      have BQT := Lib.hid hq1
                      have BPT := Lib.hid hq2
                      have hb : 0 ≤ (kk : Int) ∧ (kk : Int) < (mm : Int) := by omega
                      have hn9 : 0 ≤ n0 ∧ n0 ≤ 9 := by omega
                      have HP10 : Hid (P.length ≤ 9) := Lib.hid (by rw [hP]; simp)
                      have HPN : Hid ((P.length : Int) ≤ n0) := Lib.hid (by rw [hP, hn0]; simp)
                      have HGL : Hid (GA.length = kk) := Lib.hid HK.out.symm
                      obtain ⟨GBl, hGBl⟩ : ∃ G, G = GR := ⟨_, rfl⟩
                      obtain ⟨Bl, hBl⟩ : ∃ G, G = R := ⟨_, rfl⟩
                      have HGB : Hid (GBl.map Prod.fst = Bl) := Lib.hid (by rw [hGBl, hBl]; exact HGR.out)
                      have HAB : Hid (∀ y ∈ A ++ Bl, 0 ≤ y.tid ∧ y.tid ≤ 4 ∧ (y.puts.length : Int) ≤ y.n) := Lib.hid (fun y hy => H5.out y (by rw [HQS.out, ← hBl]; exact hy))
                      rw [← hGBl, ← hBl] at OT
                      clear hbo hbo2 hq1 hq2 hn0 hP hmm hvv hhd hGBl hBl OE BQ1 BP1 HIN
                      obtain ⟨-, k1, k2, k3, fr⟩ := OT.out.cells (i := kk) (g := (⟨x, n0, P, hd⟩, vv)) (by rw [← HGL.out]; simp)
                      have hqg : qo ≠ gb := OT.out.apart (by simp)
                      have ck := (five_of BQT.out).1
                      have hw1 : IntKind.i64.wrap (n0 + 1) = n0 + 1 := by rw [IntKind.wrap_i64]; omega
                      have S1 := OT.out.set (g' := (⟨x, n0 + 1, P, hd⟩, vv)) (k := 2) (u := .int .i64 (n0 + 1)) (by omega) (by unfold gc; simp) rfl rfl
                      have S2 := S1.1.set (g' := (⟨x, n0 + 1, P, ticks⟩, vv)) (k := 3) (u := .int .i64 0) (by omega) (by unfold gc; simp) rfl rfl
                      rw [HGL.out] at S1 S2
                      have O2 := Lib.hid S2.1
                      have BQ2 := Lib.hid (S2.2.heap (by simp) (S1.2.heap (by simp) BQT.out))
                      have BP2 := Lib.hid (S2.2.heap (by simp) (S1.2.heap (by simp) BPT.out))
                      clear S1 S2

                      have OD := Lib.hid (O2.out.less (el' := []) (by simp))
                      have HGN : Hid ((GA ++ (⟨x, n0 + 1, P, ticks⟩, vv) :: GBl).map Prod.fst = A ++ ⟨x, n0 + 1, P, ticks⟩ :: Bl) := Lib.hid (by rw [List.map_append, List.map_cons, HGA.out, HGB.out])
                      clear O2 OT BQ2 BP2 BQT BPT
                      go_wp2_with fail
                      go_roundw
                      case rel => exact ⟨k + 1, nm + 1, ticks, _, _, HK1.out, HK2.out, by have := HNB.out; omega, by have := HTK.out; omega, by go_num, (fun y hy => (mem_mid' hy).elim (fun e => by rw [e]; have h1 := HX.out; have h2 := HPN.out; refine ⟨h1.1, h1.2, ?_⟩; (show (((P).length : Nat) : Int) ≤ n0 + 1); omega) (fun h => HAB.out y h)), HGN.out, OD.out⟩
                      case measure => have := HK2.out; simp [intOf]; omega
                  | true =>
                    obtain ⟨q, B, hRq, hqx⟩ : ∃ q B, R = q :: B ∧ q.tid = x := by
                      rcases HIN.out with ⟨-, h⟩ | ⟨h, -⟩
                      · exact h
                      · cases h
                    obtain ⟨g, GB, hGRq, hg1, hg2⟩ := List.map_eq_cons_iff.1 (HGR.out.trans hRq)
                    have HG3 : Hid (G = GA ++ g :: GB) := Lib.hid (by rw [HG.out, hGRq])
                    have HQ3 : Hid (Q = A ++ q :: B) := Lib.hid (by rw [HQS.out, hRq])
                    obtain ⟨gb, haw⟩ : ∃ gb, aw = some ⟨gb, 0, none⟩ := by
                      obtain ⟨wl, hg⟩ := OB.out.gw
                      exact row_addr hg.row (by rw [HG3.out]; simp; omega)
                    have hb : 0 ≤ (kk : Int) ∧ (kk : Int) < (m : Int) := by
                      have h1 := HM.out
                      have h2 := HK.out
                      rw [HG3.out] at h1
                      simp at h1
                      omega
                    have HGK : Hid (G[kk]? = some g) := Lib.hid (by rw [HG3.out, HK.out]; simp)
                    have HG1 := Lib.hid hg1
                    have HG2 := Lib.hid hg2
                    have HQX := Lib.hid hqx
                    have HRQ := Lib.hid hRq
                    subst haw
                    have hri := OB.out.ls.choose_spec.ris
                    rw [HQ3.out] at hri
                    have HA2 : Hid (∀ a ∈ A, a.tid < q.tid) := Lib.hid hri.mid.1
                    have HB2 : Hid (∀ c ∈ B, q.tid < c.tid) := Lib.hid hri.mid.2
                    have hnum := OB.out.ls.choose_spec.num q (by rw [HQ3.out]; simp)
                    clear hRq hqx hGRq hg1 hg2 hri
                    obtain ⟨qx, n0, P, hd⟩ := q
                    obtain ⟨gq, vv⟩ := g
                    dsimp only at HQX HG1 HA2 HB2 hnum
                    obtain rfl : x = qx := HQX.out.symm
                    obtain rfl : gq = ⟨x, n0, P, hd⟩ := HG1.out
                    have HPN : Hid ((P.length : Int) ≤ n0) := Lib.hid (H5.out ⟨x, n0, P, hd⟩ (by rw [HQ3.out]; simp)).2.2
                    obtain ⟨-, -, c2, -, -⟩ := OB.out.cells HGK.out
                    dsimp only at c2
                    obtain ⟨p0, p1⟩ := cell2_of BP.out
                    obtain ⟨hnx, hn00, hn10, -⟩ := hnum
                    by_cases hnt : n0 = 10
                    · have C := Lib.hid (OB.out.call (nm' := nm) (ticks' := ticks) (Q' := Q) (f := 16) (args := #[.pointer (some ⟨b, 0, none⟩), .int .i64 x]) (R := fun e _ => e = .returned (.bool false)) (fun ow h => by
                        refine (took_full h (A := A) (B := B) (P := P) (.inr ⟨hd, by rw [← hnt]; exact HQ3.out⟩) (by unfold inI64; omega) HA2.out HB2.out).mono ?_
                        rintro e w' ⟨rfl, t⟩
                        exact ⟨ow, rfl, h.turn t (by simp), Stp.quiet t⟩))
                      have hlt : ¬ n0 < 10 := by omega
                      clear hnt
                      go_wp2_with fail
                      refine C.out.mono ?_
                      rintro e wd ⟨rfl, hbo, hoff⟩
                      have OD := Lib.hid (hbo.less (el' := []) (by simp))
                      have BQ1 := Lib.hid (hoff.heap (by simp) BQ.out)
                      have ck := (five_of BQ1.out).1
                      clear hbo hoff C c0 c2 p0 p1
                      go_wp2_with fail
                      go_roundw
                      case rel => exact ⟨k + 1, nm, ticks, Q, G, HK1.out, HK2.out, by have := HNB.out; omega, by have := HTK.out; omega, by go_num, H5.out, HGQ.out, OD.out⟩
                      case measure => have := HK2.out; simp [intOf]; omega
                    · have C := Lib.hid (OB.out.call (nm' := nm + 1) (ticks' := ticks) (Q' := A ++ ⟨x, n0 + 1, P, ticks⟩ :: B) (f := 16) (args := #[.pointer (some ⟨b, 0, none⟩), .int .i64 x]) (R := fun e _ => e = .returned (.bool true)) (fun ow h => by
                        refine (took_on h (A := A) (B := B) (n := n0) (P := P) (.inr ⟨hd, HQ3.out⟩) (by unfold inI64; omega) HA2.out HB2.out (by omega) (by have := HPN.out; omega) (by have := HNB.out; have := HK2.out; omega)).mono ?_
                        rintro e w' ⟨ow', rfl, h2, s2⟩
                        exact ⟨ow', rfl, h2, s2⟩))
                      have hlt : n0 < 10 := by omega
                      clear hnt
                      go_wp2_with fail
                      refine C.out.mono ?_
                      rintro e wt ⟨rfl, hbo, hoff⟩
                      rw [HG3.out] at hbo
                      have BQT := Lib.hid (hoff.heap (by simp) BQ.out)
                      have BPT := Lib.hid (hoff.heap (by simp) BP.out)
                      have OT := Lib.hid hbo
                      have hn9 : 0 ≤ n0 ∧ n0 ≤ 9 := by omega
                      have HP10 : Hid (P.length ≤ 9) := Lib.hid (by have := HPN.out; omega)
                      have HGL : Hid (GA.length = kk) := Lib.hid HK.out.symm
                      obtain ⟨mm, hmm⟩ : ∃ mm, mm = m := ⟨_, rfl⟩
                      obtain ⟨cc, hcc⟩ : ∃ cc, cc = cw := ⟨_, rfl⟩
                      rw [← hmm] at hb OT
                      rw [← hcc] at OT
                      rw [← hmm, ← hcc]
                      obtain ⟨GBl, hGBl⟩ : ∃ G, G = GB := ⟨_, rfl⟩
                      obtain ⟨Bl, hBl⟩ : ∃ G, G = B := ⟨_, rfl⟩
                      have HGB : Hid (GBl.map Prod.fst = Bl) := Lib.hid (by rw [hGBl, hBl]; exact HG2.out)
                      have HAB : Hid (∀ y ∈ A ++ Bl, 0 ≤ y.tid ∧ y.tid ≤ 4 ∧ (y.puts.length : Int) ≤ y.n) := Lib.hid (fun y hy => H5.out y (by rw [HQ3.out, ← hBl]; exact mem_mid hy))
                      rw [← hGBl, ← hBl] at OT
                      clear hbo hoff C c0 c2 p0 p1 hmm hcc hGBl hBl OB BQ BP hn00 hn10 hlt HG3 HGK
                      obtain ⟨-, k1, k2, k3, fr⟩ := OT.out.cells (i := kk) (g := (⟨x, n0, P, hd⟩, vv)) (by rw [← HGL.out]; simp)
                      have hqg : qo ≠ gb := OT.out.apart (by simp)
                      have ck := (five_of BQT.out).1
                      have hw1 : IntKind.i64.wrap (n0 + 1) = n0 + 1 := by rw [IntKind.wrap_i64]; omega
                      have S1 := OT.out.set (g' := (⟨x, n0 + 1, P, hd⟩, vv)) (k := 2) (u := .int .i64 (n0 + 1)) (by omega) (by unfold gc; simp) rfl rfl
                      have S2 := S1.1.set (g' := (⟨x, n0 + 1, P, ticks⟩, vv)) (k := 3) (u := .int .i64 0) (by omega) (by unfold gc; simp) rfl rfl
                      rw [HGL.out] at S1 S2
                      have O2 := Lib.hid S2.1
                      have BQ2 := Lib.hid (S2.2.heap (by simp) (S1.2.heap (by simp) BQT.out))
                      have BP2 := Lib.hid (S2.2.heap (by simp) (S1.2.heap (by simp) BPT.out))
                      clear S1 S2

                      have OD := Lib.hid (O2.out.less (el' := []) (by simp))
                      have HGN : Hid ((GA ++ (⟨x, n0 + 1, P, ticks⟩, vv) :: GBl).map Prod.fst = A ++ ⟨x, n0 + 1, P, ticks⟩ :: Bl) := Lib.hid (by rw [List.map_append, List.map_cons, HGA.out, HGB.out])
                      clear O2 OT BQ2 BP2 BQT BPT
                      go_wp2_with fail
                      go_roundw
                      case rel => exact ⟨k + 1, nm + 1, ticks, _, _, HK1.out, HK2.out, by have := HNB.out; omega, by have := HTK.out; omega, by go_num, (fun y hy => (mem_mid' hy).elim (fun e => by rw [e]; have h1 := HX.out; have h2 := HPN.out; refine ⟨h1.1, h1.2, ?_⟩; (show (((P).length : Nat) : Int) ≤ n0 + 1); omega) (fun h => HAB.out y h)), HGN.out, OD.out⟩
                      case measure => have := HK2.out; simp [intOf]; omega
                by_cases h2 : kd = 2
                · subst h2
                  cases inB with
                  | false =>
                    have hB : ∀ r ∈ R, x < r.tid := by
                      rcases HIN.out with ⟨h, -⟩ | ⟨-, h⟩
                      · cases h
                      · exact h
                    have C := Lib.hid (OB.out.call (nm' := nm) (ticks' := ticks) (Q' := Q) (f := 17) (args := #[.pointer (some ⟨b, 0, none⟩), .int .i64 x]) (R := fun e _ => e = .returned (.bool false)) (fun ow h => by
                      rw [HQS.out] at h
                      refine (touch_none h HA.out hB).mono ?_
                      rintro e w' ⟨rfl, t⟩
                      rw [HQS.out]
                      exact ⟨ow, rfl, h.turn t (by simp), Stp.quiet t⟩))
                    clear hB
                    go_wp2_with fail
                    refine C.out.mono ?_
                    rintro e wd ⟨rfl, hbo, -⟩
                    have OD := Lib.hid (hbo.less (el' := []) (by simp))
                    clear hbo C c0
                    go_wp2_with fail
                    go_roundw
                    case rel => exact ⟨k + 1, nm, ticks, Q, G, HK1.out, HK2.out, by have := HNB.out; omega, by have := HTK.out; omega, by go_num, H5.out, HGQ.out, OD.out⟩
                    case measure => have := HK2.out; simp [intOf]; omega
                  | true =>
                    obtain ⟨q, B, hRq, hqx⟩ : ∃ q B, R = q :: B ∧ q.tid = x := by
                      rcases HIN.out with ⟨-, h⟩ | ⟨h, -⟩
                      · exact h
                      · cases h
                    obtain ⟨g, GB, hGRq, hg1, hg2⟩ := List.map_eq_cons_iff.1 (HGR.out.trans hRq)
                    have HG3 : Hid (G = GA ++ g :: GB) := Lib.hid (by rw [HG.out, hGRq])
                    have HQ3 : Hid (Q = A ++ q :: B) := Lib.hid (by rw [HQS.out, hRq])
                    obtain ⟨gb, haw⟩ : ∃ gb, aw = some ⟨gb, 0, none⟩ := by
                      obtain ⟨wl, hg⟩ := OB.out.gw
                      exact row_addr hg.row (by rw [HG3.out]; simp; omega)
                    have hb : 0 ≤ (kk : Int) ∧ (kk : Int) < (m : Int) := by
                      have h1 := HM.out
                      have h2 := HK.out
                      rw [HG3.out] at h1
                      simp at h1
                      omega
                    have HGK : Hid (G[kk]? = some g) := Lib.hid (by rw [HG3.out, HK.out]; simp)
                    have HG1 := Lib.hid hg1
                    have HG2 := Lib.hid hg2
                    have HQX := Lib.hid hqx
                    have HRQ := Lib.hid hRq
                    subst haw
                    have hri := OB.out.ls.choose_spec.ris
                    rw [HQ3.out] at hri
                    have HA2 : Hid (∀ a ∈ A, a.tid < q.tid) := Lib.hid hri.mid.1
                    have HB2 : Hid (∀ c ∈ B, q.tid < c.tid) := Lib.hid hri.mid.2
                    have hnum := OB.out.ls.choose_spec.num q (by rw [HQ3.out]; simp)
                    clear hRq hqx hGRq hg1 hg2 hri
                    have C := Lib.hid (OB.out.call (nm' := nm) (ticks' := ticks) (Q' := A ++ ⟨q.tid, q.n, q.puts, ticks⟩ :: B) (f := 17) (args := #[.pointer (some ⟨b, 0, none⟩), .int .i64 x]) (R := fun e _ => e = .returned (.bool true)) (fun ow h => by
                      rw [HQ3.out] at h
                      rw [← HQX.out]
                      refine (touch_is h HA2.out HB2.out).mono ?_
                      rintro e w' ⟨ow', rfl, h2, s2⟩
                      exact ⟨ow', rfl, h2, s2⟩))
                    go_wp2_with fail
                    refine C.out.mono ?_
                    rintro e wd ⟨rfl, hbo, -⟩
                    obtain ⟨-, -, -, c3, fr⟩ := hbo.cells HGK.out
                    rw [HG3.out] at hbo
                    have OD := Lib.hid ((hbo.set (g' := (⟨q.tid, q.n, q.puts, ticks⟩, g.2)) (k := 3) (u := .int .i64 0) (by omega) (by unfold gc; rw [HG1.out]; simp) rfl (by rw [HG1.out])).1.less (el' := []) (by simp))
                    rw [← HK.out] at OD
                    have HGN : Hid ((GA ++ (⟨q.tid, q.n, q.puts, ticks⟩, g.2) :: GB).map Prod.fst = A ++ ⟨q.tid, q.n, q.puts, ticks⟩ :: B) := Lib.hid (by rw [List.map_append, List.map_cons, HGA.out, HG2.out])
                    clear hbo C c0
                    go_wp2_with fail
                    go_roundw
                    case rel => exact ⟨k + 1, nm, ticks, _, _, HK1.out, HK2.out, by have := HNB.out; omega, by have := HTK.out; omega, by go_num, (fun y hy => (mem_mid' hy).elim (fun e => by rw [e]; exact H5.out q (by rw [HQ3.out]; simp)) (fun h => H5.out y (by rw [HQ3.out]; exact mem_mid h))), HGN.out, OD.out⟩
                    case measure => have := HK2.out; simp [intOf]; omega
                by_cases h3 : kd = 3
                · subst h3
                  cases inB with
                  | false =>
                    have hB : ∀ r ∈ R, x < r.tid := by
                      rcases HIN.out with ⟨h, -⟩ | ⟨-, h⟩
                      · cases h
                      · exact h
                    have C := Lib.hid (OB.out.call (nm' := nm) (ticks' := ticks) (Q' := Q) (f := 18) (args := #[.pointer (some ⟨b, 0, none⟩), .int .i64 x]) (R := fun e _ => e = .returned (.bool false)) (fun ow h => by
                      rw [HQS.out] at h
                      refine (drop_none h HA.out hB).mono ?_
                      rintro e w' ⟨rfl, t⟩
                      rw [HQS.out]
                      exact ⟨ow, rfl, h.turn t (by simp), Stp.quiet t⟩))
                    clear hB
                    go_wp2_with fail
                    refine C.out.mono ?_
                    rintro e wd ⟨rfl, hbo, -⟩
                    have OD := Lib.hid (hbo.less (el' := []) (by simp))
                    clear hbo C c0
                    go_wp2_with fail
                    go_roundw
                    case rel => exact ⟨k + 1, nm, ticks, Q, G, HK1.out, HK2.out, by have := HNB.out; omega, by have := HTK.out; omega, by go_num, H5.out, HGQ.out, OD.out⟩
                    case measure => have := HK2.out; simp [intOf]; omega
                  | true =>
                    obtain ⟨q, B, hRq, hqx⟩ : ∃ q B, R = q :: B ∧ q.tid = x := by
                      rcases HIN.out with ⟨-, h⟩ | ⟨h, -⟩
                      · exact h
                      · cases h
                    obtain ⟨g, GB, hGRq, hg1, hg2⟩ := List.map_eq_cons_iff.1 (HGR.out.trans hRq)
                    have HG3 : Hid (G = GA ++ g :: GB) := Lib.hid (by rw [HG.out, hGRq])
                    have HQ3 : Hid (Q = A ++ q :: B) := Lib.hid (by rw [HQS.out, hRq])
                    obtain ⟨gb, haw⟩ : ∃ gb, aw = some ⟨gb, 0, none⟩ := by
                      obtain ⟨wl, hg⟩ := OB.out.gw
                      exact row_addr hg.row (by rw [HG3.out]; simp; omega)
                    have hb : 0 ≤ (kk : Int) ∧ (kk : Int) < (m : Int) := by
                      have h1 := HM.out
                      have h2 := HK.out
                      rw [HG3.out] at h1
                      simp at h1
                      omega
                    have HGK : Hid (G[kk]? = some g) := Lib.hid (by rw [HG3.out, HK.out]; simp)
                    have HG1 := Lib.hid hg1
                    have HG2 := Lib.hid hg2
                    have HQX := Lib.hid hqx
                    have HRQ := Lib.hid hRq
                    subst haw
                    have hri := OB.out.ls.choose_spec.ris
                    rw [HQ3.out] at hri
                    have HA2 : Hid (∀ a ∈ A, a.tid < q.tid) := Lib.hid hri.mid.1
                    have HB2 : Hid (∀ c ∈ B, q.tid < c.tid) := Lib.hid hri.mid.2
                    have hnum := OB.out.ls.choose_spec.num q (by rw [HQ3.out]; simp)
                    clear hRq hqx hGRq hg1 hg2 hri
                    have C := Lib.hid (OB.out.call (nm' := nm) (ticks' := ticks) (Q' := A ++ B) (f := 18) (args := #[.pointer (some ⟨b, 0, none⟩), .int .i64 x]) (R := fun e _ => e = .returned (.bool true)) (fun ow h => by
                      rw [HQ3.out] at h
                      rw [← HQX.out]
                      refine (drop_is h HA2.out HB2.out).mono ?_
                      rintro e w' ⟨ow', rfl, h2, s2⟩
                      exact ⟨ow', rfl, h2, s2⟩))
                    go_wp2_with fail
                    refine C.out.mono ?_
                    rintro e wd ⟨rfl, hbo, -⟩
                    have OE := Lib.hid hbo
                    obtain ⟨hlm, hmc, hcm⟩ := hbo.len
                    have HF : Hid (Src 4 wd (some ⟨gb, 0, none⟩) kk cw (GA.flatMap (gc ticks))) := Lib.hid (by
                      obtain ⟨wl, hg⟩ := hbo.gw
                      rw [HG3.out] at hg
                      have := hg.front (by simp)
                      rw [← HK.out] at this
                      exact this)
                    obtain ⟨A2, hA2⟩ : ∃ a2 : Option Addr, a2 = (if cw = kk + 1 then some ⟨gb, 0, none⟩ else some ⟨gb, (kk + 1) * 4, none⟩) := ⟨_, rfl⟩
                    have HB : Hid (Src 4 wd A2 (m - (kk + 1)) (cw - (kk + 1)) (GB.flatMap (gc ticks))) := Lib.hid (by
                      obtain ⟨wl, hg⟩ := hbo.gw
                      have hml : m - (kk + 1) = GB.length := by rw [← hlm, HG3.out, HK.out]; simp; omega
                      rw [hA2, hml]
                      split
                      · next e =>
                        have e3 : GB = [] := List.eq_nil_of_length_eq_zero (by omega)
                        rw [e3]
                        exact .inr ⟨_, rfl, rfl, fun j u hj => by simp at hj⟩
                      · rw [HG3.out, show GA ++ g :: GB = (GA ++ [g]) ++ GB by simp] at hg
                        exact hg.back _ _ (by simp [HK.out]))
                    have ONES : Hid (∀ u ∈ (GA.flatMap (gc ticks)) ++ GB.flatMap (gc ticks), u.oneCell' = true) := Lib.hid (by
                      obtain ⟨wl, hg⟩ := hbo.gw
                      have := ones_gc hg
                      rw [HG3.out] at this
                      intro u hu
                      refine this u ?_
                      rw [List.flatMap_append, List.flatMap_cons]
                      rcases List.mem_append.1 hu with h | h
                      · exact List.mem_append.2 (.inl h)
                      · exact List.mem_append.2 (.inr (List.mem_append.2 (.inr h))))
                    have hkc : kk ≤ cw ∧ kk + 1 ≤ cw := by omega
                    have hbn : 0 ≤ (kk : Int) ∧ (kk : Int) ≤ (m : Int) := by omega
                    have hbn2 : 0 ≤ (kk : Int) + 1 ∧ (kk : Int) + 1 ≤ (m : Int) := by omega
                    obtain ⟨i0, hi, hz0, hz1, hz2⟩ := info_parts Tryz.gorow
                    have HI0 := Lib.hid (And.intro hi (And.intro hz0 (And.intro hz1 hz2)))
                    clear hbo C c0 hi hz0 hz1 hz2 hlm
                    have hw1 : IntKind.i64.wrap ((kk : Int) + 1) = ((kk + 1 : Nat) : Int) := by rw [IntKind.wrap_i64]; omega
                    replace hA2 := hA2.symm
                    have HLT := Lib.hid (HM.out)
                    go_upto_region 48 with fail
                    have TD := Lib.hid (Turn.drew [] wd)
                    have hS : True := trivial
                    refine Pq.start [] (fun _ => True) (fun _ => True) (by kernel_rfl) ?_
                    refine Pq.tk 0 (some 211) (v := ?_) hS ?_ ?_
                    rotate_left
                    · (intro y hy; go_simp; try with_reducible rfl)
                    simp only [Act.put, List.setIfInBounds_toArray, List.set_cons_zero, List.set_cons_succ]
                    refine Pq.tk 1 (some 212) (v := ?_) hS ?_ ?_
                    rotate_left
                    · (intro y hy; go_simp; try with_reducible rfl)
                    simp only [Act.put, List.setIfInBounds_toArray, List.set_cons_zero, List.set_cons_succ]
                    refine Pq.tk 2 (some 213) (v := ?_) hS ?_ ?_
                    rotate_left
                    · (intro y hy; go_simp; try with_reducible rfl)
                    simp only [Act.put, List.setIfInBounds_toArray, List.set_cons_zero, List.set_cons_succ]
                    refine Pq.tk 4 (some 215) (v := ?_) hS ?_ ?_
                    rotate_left
                    · (intro y hy; go_simp; try with_reducible rfl)
                    simp only [Act.put, List.setIfInBounds_toArray, List.set_cons_zero, List.set_cons_succ]
                    refine Pq.tk 5 (some 216) (v := ?_) hS ?_ ?_
                    rotate_left
                    · (intro y hy; go_simp; try with_reducible rfl)
                    simp only [Act.put, List.setIfInBounds_toArray, List.set_cons_zero, List.set_cons_succ]
                    refine Pq.tk 6 (some 217) (v := ?_) hS ?_ ?_
                    rotate_left
                    · (intro y hy; go_simp; try with_reducible rfl)
                    simp only [Act.put, List.setIfInBounds_toArray, List.set_cons_zero, List.set_cons_succ]
                    refine Pq.tk 7 (some 218) (v := ?_) hS ?_ ?_
                    rotate_left
                    · (intro y hy; go_simp; try with_reducible rfl)
                    simp only [Act.put, List.setIfInBounds_toArray, List.set_cons_zero, List.set_cons_succ]
                    refine Pq.one (i := 3) (by kernel_rfl) rfl ?_
                    intro K0 hK
                    refine step_append_src Tryz.underlying26 HI0.out.1 HI0.out.2.1 HI0.out.2.2.1 HI0.out.2.2.2 rfl (by decide) rfl (.const (.slice none 0 0)) (.tmp 213) rfl wd.heap.size (.slice none 0 0) 0 [] rfl (World.ownsRow_nil _ _ _ _) TD.out.size _ _ _ _ rfl (HF.out.turn TD.out) (fun u hu => ONES.out u (List.mem_append.2 (.inl hu))) (by omega) (by omega) (fun v1 y1 r1 g1 o1 => ?_)
                    rw [Nat.zero_add, List.nil_append] at r1
                    have T1 := Lib.hid (TD.out.trans (Turn.grown (l := []) g1 (fun k hk => by simp [Value.ownBlock] at hk)) (by simp))
                    obtain ⟨p1, k1, hv1⟩ := row_slice r1
                    subst hv1
                    have R1 := Lib.hid r1
                    clear r1 g1 o1
                    refine hK _ _ trivial (.inr id) ?_
                    clear hK K0
                    refine Pq.one (i := 8) (by kernel_rfl) rfl ?_
                    intro K0 hK
                    refine step_append_src Tryz.underlying26 HI0.out.1 HI0.out.2.1 HI0.out.2.2.1 HI0.out.2.2.2 rfl (by decide) rfl (.tmp 214) (.tmp 218) rfl wd.heap.size (.slice p1 kk k1) kk _ rfl R1.out T1.out.size _ _ _ _ rfl (HB.out.turn T1.out) (fun u hu => ONES.out u (List.mem_append.2 (.inr hu))) (by omega) (by omega) (fun v2 y2 r2 g2 o2 => ?_)
                    rw [← List.flatMap_append] at r2
                    have T2 := Lib.hid (T1.out.trans (Turn.grown (l := (Value.slice p1 kk k1).ownBlock.toList) g2 (fun q hq => .inl (by simp [hq]))) (fun q hq => .inr (R1.out.lt _ (Option.mem_toList.1 hq)).1))
                    obtain ⟨p2, k2, hv2⟩ := row_slice r2
                    subst hv2
                    have R2 := Lib.hid r2
                    clear r2 g2 o2
                    refine hK _ _ trivial (.inr id) ?_
                    clear hK K0
                    refine Pq.tk 9 (some 5) (v := ?_) hS ?_ ?_
                    rotate_left
                    · (intro y hy; go_simp; try with_reducible rfl)
                    refine Pq.done (by kernel_rfl) ?_ _
                    have hln : kk + (m - (kk + 1)) = (GA ++ GB).length := by
                      have h1 := HM.out
                      have h2 := HK.out
                      rw [HG3.out] at h1
                      simp at h1 ⊢
                      omega
                    have OD := Lib.hid ((OE.out.mine (t' := ticks) (vw' := .slice p2 (kk + (m - (kk + 1))) k2) (G' := GA ++ GB) (w' := y2) (fun wl hg => ⟨_, by
                      rw [HG3.out] at hg
                      exact hg.again T2.out (by rw [← hln]; exact R2.out) (pair_mid hg.sep).1 (fun y hy => .inl (mem_mid hy)), Stp.of T2.out (by simp) (fun k hk => .inr (R2.out.lt _ hk).1)⟩)).1.less (el' := []) (by simp))
                    have HGN : Hid ((GA ++ GB).map Prod.fst = A ++ B) := Lib.hid (by rw [List.map_append, HGA.out, HG2.out])
                    clear hln hw1
                    go_wp2_with fail
                    go_roundw
                    case rel => exact ⟨k + 1, nm, ticks, _, _, HK1.out, HK2.out, by have := HNB.out; omega, by have := HTK.out; omega, by go_num, (fun y hy => H5.out y (by rw [HQ3.out]; exact mem_mid hy)), HGN.out, OD.out⟩
                    case measure => have := HK2.out; simp [intOf]; omega
                have hsm := OB.out.ls.choose_spec.heard
                have HSM := Lib.hid hsm
                have htk60 : 0 ≤ ticks ∧ ticks ≤ 60 := by have := HTK.out; omega
                have O0 := Lib.hid (OB.out.less (el' := []) (by simp))
                have HML : Hid (Q.length = m) := Lib.hid (by rw [HM.out, ← HGQ.out, List.length_map])
                have b0 : (kd == 0) = false := by simpa using h0
                have b1 : (kd == 1) = false := by simpa using h1
                have b2 : (kd == 2) = false := by simpa using h2
                have b3 : (kd == 3) = false := by simpa using h3
                clear hsm OB BQ BP h0 h1 h2 h3
                go_wp2_with fail
                clear c0 b0 b1 b2 b3
                go_loopw [13, 14, 82] (fun vo _ vj wx => ∃ (j : Nat), j ≤ m ∧ vj = .int .i64 (j : Int) ∧ wx.ownsRow 0 2 1 vo (L.silK 6 (ticks + 1) ((Q.map qa).take j)).length (L.silK 6 (ticks + 1) ((Q.map qa).take j)) ∧ Bo w wx vo.ownBlock.toList b nm ticks Q ticks (.slice aw m cw) (mid G j)) (fun _ _ vj _ => m - (intOf vj).toNat)
                case atStart => exact ⟨0, by omega, rfl, World.ownsRow_nil _ _ _ _, O0.out⟩
                case round => as_aux_lemma =>
                  obtain ⟨j, hj, rfl, hro, hbo⟩ := hrel
                  have RO := Lib.hid hro
                  have OJ := Lib.hid hbo
                  obtain ⟨ac, cc, hvo⟩ := row_slice hro
                  clear hro hbo O0
                  by_cases hjm : (j : Int) < (m : Int)
                  · obtain ⟨g, hg⟩ : ∃ g, G[j]? = some g := ⟨_, List.getElem?_eq_getElem (by have := HM.out; omega)⟩
                    obtain ⟨ms1, ms2⟩ := mid_step hg
                    have HQJ : Hid (∃ hl : j < (Q.map qa).length, (Q.map qa)[j] = (g.1.tid, g.1.heard)) := Lib.hid (by
                      have hl : j < (Q.map qa).length := by rw [List.length_map, HML.out]; omega
                      refine ⟨hl, ?_⟩
                      have h1 : (Q.map qa)[j]? = some (qa g.1) := by rw [← HGQ.out, List.map_map, List.getElem?_map, hg]; rfl
                      have h2 := List.getElem?_eq_getElem hl
                      rw [h1] at h2
                      injection h2 with h2
                      exact h2.symm)
                    have hjt : ((G.take j).map older).length = j := by have := HM.out; simp; omega
                    have ob := OJ.out
                    rw [ms1] at ob
                    obtain ⟨gb, m2, c2, hv2, -, -⟩ := ob.some
                    injection hv2 with haw hm2 hc2
                    subst haw
                    clear hm2 hc2
                    obtain ⟨k0, -, -, k3, fr⟩ := ob.cells (i := j) (g := g) (by rw [← hjt]; simp)
                    have sb := ob.set (g' := older g) (k := 3) (u := .int .i64 (ticks - g.1.heard + 1)) (by omega) (by unfold gc older; simp; omega) rfl rfl
                    rw [hjt, ← ms2] at sb
                    have hh : 0 ≤ g.1.heard ∧ g.1.heard ≤ ticks := HSM.out.2 g.1 (by rw [← HGQ.out]; exact List.mem_map_of_mem (List.mem_of_getElem? hg))
                    have O1 := Lib.hid sb.1
                    have R1 := Lib.hid (sb.2.row RO.out (by simp))
                    obtain ⟨gt, hgt⟩ : ∃ z, z = g.1.tid := ⟨_, rfl⟩
                    obtain ⟨gh, hgh⟩ : ∃ z, z = g.1.heard := ⟨_, rfl⟩
                    rw [← hgt, ← hgh] at HQJ
                    rw [← hgt] at k0
                    rw [← hgh] at k3 hh O1 R1
                    have hbj : 0 ≤ (j : Int) ∧ (j : Int) < (m : Int) := by omega
                    have hw2 : IntKind.i64.wrap (ticks - gh + 1) = ticks - gh + 1 := by rw [IntKind.wrap_i64]; omega
                    have HSC : Hid (L.silK 6 (ticks + 1) ((Q.map qa).take (j + 1)) = if 6 ≤ ticks - gh + 1 then L.silK 6 (ticks + 1) ((Q.map qa).take j) ++ [.int .i64 gt] else L.silK 6 (ticks + 1) ((Q.map qa).take j)) := Lib.hid (by
                      obtain ⟨hl, he⟩ := HQJ.out
                      rw [L.silK_succ hl, he]
                      dsimp only
                      rw [show ticks + 1 - gh = ticks - gh + 1 by omega])
                    have hsl : (L.silK 6 (ticks + 1) ((Q.map qa).take j)).length ≤ 10 := by
                      have h1 := L.silK_length 6 (ticks + 1) ((Q.map qa).take j)
                      rw [List.length_take] at h1
                      omega
                    obtain ⟨S, hS⟩ : ∃ S, S = L.silK 6 (ticks + 1) ((Q.map qa).take j) := ⟨_, rfl⟩
                    rw [← hS] at RO HSC hsl hvo R1
                    have HVO := Lib.hid hvo
                    have HJM := Lib.hid hjm
                    clear hg ms1 ms2 hjt ob sb hgt hgh hS hjm hj HSM
                    by_cases h6 : 6 ≤ ticks - gh + 1
                    · have HS6 : Hid (L.silK 6 (ticks + 1) ((Q.map qa).take (j + 1)) = S ++ [.int .i64 gt]) := Lib.hid (by rw [HSC.out, if_pos h6])
                      rw [hvo]
                      rw [hvo] at R1 O1
                      clear hvo HSC
                      have TA : Hid (∀ z : World, Turn [] z (z.alloc (.cells #[.int .i64 gt] 2))) := Lib.hid (fun z => Turn.alloc [] z _)
                      go_wp2_with (at_builtin; refine L.append_one rfl (.tmp 99) (.tmp 105) rfl (.slice ac S.length cc) S rfl (ownsRow_turn R1.out (TA.out _) (by simp)) _ gt rfl (cell_new' (by simp [World.setCell])) (by omega) ?_; intro v4 w4 r4 g4 o4)
                      have T4 := Lib.hid (((TA.out _).mono (l' := (Value.slice ac S.length cc).ownBlock.toList) (by simp)).trans (Turn.grown (l := (Value.slice ac S.length cc).ownBlock.toList) g4 (fun i hi => .inl (by simp [hi]))) (fun i hi => .inl hi))
                      have O4 := Lib.hid (O1.out.extra (el' := v4.ownBlock.toList) T4.out (fun k hk => hk) (fun k hk => by
                        have hk2 := Option.mem_toList.1 hk
                        refine ⟨?_, (r4.lt k hk2).2⟩
                        rcases o4 with e | e
                        · exact .inl (by rw [← e]; exact hk)
                        · rw [e] at hk2
                          cases hk2
                          exact .inr (Turn.alloc [] _ _).size))
                      have R4 := Lib.hid r4
                      obtain ⟨a4, c4, hv4⟩ := row_slice r4
                      obtain ⟨l4, hl4⟩ : ∃ z, z = (S ++ [Value.int .i64 gt]).length := ⟨_, rfl⟩
                      have HL4 := Lib.hid hl4
                      rw [← hl4] at R4 hv4
                      subst hv4
                      clear r4 g4 o4 T4 O1 R1 hl4
                      go_wp2_with fail
                      go_roundw
                      case rel => exact ⟨j + 1, by have := HJM.out; omega, by go_num, by rw [HS6.out, ← HL4.out]; exact R4.out, O4.out⟩
                      case measure => have := HJM.out; simp [intOf]; omega
                    · have HS6 : Hid (L.silK 6 (ticks + 1) ((Q.map qa).take (j + 1)) = S) := Lib.hid (by rw [HSC.out, if_neg h6])
                      clear HSC hvo
                      go_wp2_with fail
                      go_roundw
                      case rel => exact ⟨j + 1, by have := HJM.out; omega, by go_num, by rw [HS6.out]; exact R1.out, O1.out⟩
                      case measure => have := HJM.out; simp [intOf]; omega
                  · have hjj : j = m := by omega
                    subst hjj
                    have hlt : ¬ ((j : Int) < (j : Int)) := by omega
                    have hfull : (Q.map qa).take j = Q.map qa := List.take_of_length_le (by rw [List.length_map, HML.out]; exact Nat.le_refl _)
                    rw [hfull, sil_i64, i64s_length] at RO hvo
                    have hmf : mid G j = G.map older := by rw [HM.out]; exact mid_full G
                    rw [hmf] at OJ
                    subst hvo
                    have C := Lib.hid (OJ.out.call (nm' := nm) (ticks' := ticks + 1) (Q' := Q) (f := 20) (args := #[.pointer (some ⟨b, 0, none⟩)]) (R := fun e w' => ∃ ao c, e = .returned (.slice ao (silL (ticks + 1) Q).length c) ∧ w'.ownsRow 0 2 1 (.slice ao (silL (ticks + 1) Q).length c) (silL (ticks + 1) Q).length (i64s (silL (ticks + 1) Q))) (fun ow h => by
                      refine (ltick_calls h (by omega)).mono ?_
                      rintro e w' ⟨ow', sv, rfl, hr, -, h2, s2⟩
                      rw [sil_i64, i64s_length] at hr
                      obtain ⟨ao, c, rfl⟩ := row_slice hr
                      exact ⟨ow', ⟨ao, c, rfl, hr⟩, h2, s2⟩))
                    have HL1 : Hid ((silL (ticks + 1) Q).length ≤ 1000000) := Lib.hid (by
                      have h1 := L.silK_length 6 (ticks + 1) (Q.map qa)
                      rw [sil_i64, i64s_length, List.length_map, HML.out] at h1
                      omega)
                    clear hfull hmf hjm
                    go_wp2_with fail
                    refine C.out.mono ?_
                    rintro e wd ⟨⟨at1, ct1, rfl, hrt⟩, hbo, hoff⟩
                    have E := Lib.hid (eq13_calls (row_sr hrt) (row_sr (hoff.row RO.out (by simp))) HL1.out)
                    have OD0 := Lib.hid ((hbo.less (el' := []) (by simp)).mine (fun wl hg => ⟨wl, hg.young, Stp.quiet (Turn.refl _ _)⟩)).1
                    clear hbo hoff hrt C
                    go_wp2_with fail
                    refine E.out.mono ?_
                    rintro e we ⟨rfl, te⟩
                    have OD := Lib.hid (OD0.out.quiet te)
                    clear te E OD0
                    go_wp2_with fail
                    go_roundw
                    case rel => exact ⟨k + 1, nm, ticks + 1, Q, G, HK1.out, HK2.out, by have := HNB.out; omega, by have := HTK.out; omega, by go_num, H5.out, HGQ.out, OD.out⟩
                    case measure => have := HK2.out; simp [intOf]; omega
    · have HKN := Lib.hid hkn
      clear hkn
      go_upto_region 7 with fail
      go_cut [29] from 22 to 29 (fun v29 wx => v29 = .bool false ∧ wx = wr)
      case first => as_aux_lemma =>
        by_cases hk15 : (k : Int) < (n : Int)
        · have h1 : ¬ (k : Int) < 60 := by have := HKN.out; omega
          clear hk hk6
          go_wp2_with fail
          go_meet
          exact ⟨rfl, by trivial⟩
        · clear hk hk6
          go_wp2_with fail
          go_meet
          exact ⟨rfl, by trivial⟩
      case rest => as_aux_lemma =>
        obtain ⟨rfl, hwc⟩ := hcut
        subst hwc
        obtain ⟨m, hm⟩ : ∃ m, m = G.length := ⟨_, rfl⟩
        have HM := Lib.hid hm
        rw [← hm] at O ⊢
        have HML : Hid (Q.length = m) := Lib.hid (by rw [hm, ← HGQ.out, List.length_map])
        have hm5 : (m : Int) ≤ 5 := by
          have h1 := short_Q O.out.ls.choose_spec.ris (fun q hq => ⟨(H5.out q hq).1, (H5.out q hq).2.1⟩)
          rw [HML.out] at h1
          omega
        have HFIT := Lib.hid O.out.ls.choose_spec.fit
        have HNUM := Lib.hid O.out.ls.choose_spec.num
        clear hm HKN hk hk6
        go_wp2_with fail
        go_loopw [15, 16, 17] (fun vt va vj wx => ∃ (j : Nat), j ≤ m ∧ vj = .int .i64 (j : Int) ∧ wx.ownsRow 0 2 1 vt ((Q.take j).map (·.tid)).length (i64s ((Q.take j).map (·.tid))) ∧ wx.ownsRow 0 28 2 va ((Q.take j).flatMap (·.puts)).length (pcells ((Q.take j).flatMap (·.puts))) ∧ Bo w wx (vt.ownBlock.toList ++ va.ownBlock.toList) b nm ticks Q ticks (.slice aw m cw) G) (fun _ _ vj _ => m - (intOf vj).toNat)
        case atStart => exact ⟨0, by omega, rfl, World.ownsRow_nil _ _ _ _, World.ownsRow_nil _ _ _ _, O.out⟩
        case round => as_aux_lemma =>
          obtain ⟨j, hj, rfl, hrt, hra, hbo⟩ := hrel
          have RT := Lib.hid hrt
          have RA := Lib.hid hra
          have OJ := Lib.hid hbo
          obtain ⟨at0, ct0, hvt⟩ := row_slice hrt
          obtain ⟨aa0, ca0, hva⟩ := row_slice hra
          subst hvt hva
          clear hrt hra hbo O
          by_cases hjm : (j : Int) < (m : Int)
          · obtain ⟨g, hg⟩ : ∃ g, G[j]? = some g := ⟨_, List.getElem?_eq_getElem (by have := HM.out; omega)⟩
            have hqj : Q[j]? = some g.1 := by rw [← HGQ.out, List.getElem?_map, hg]; rfl
            have HTQ := Lib.hid (take_q hqj)
            have hgm : g.1 ∈ Q := List.mem_of_getElem? hqj
            have HP10 := Lib.hid (HNUM.out g.1 hgm).2.2.2
            have hxj := (HNUM.out g.1 hgm).1
            have HFP := Lib.hid (HFIT.out g.1 hgm)
            have hsp := split_q hqj
            have hri := OJ.out.ls.choose_spec.ris
            rw [hsp] at hri
            have HAJ := Lib.hid hri.mid.1
            have HBJ := Lib.hid hri.mid.2
            have HQAT : Hid (Qat (Q.take j) (Q.drop (j + 1)) g.1.tid g.1.n g.1.puts Q) := Lib.hid (.inr ⟨g.1.heard, hsp⟩)
            obtain ⟨gb, haw⟩ : ∃ gb, aw = some ⟨gb, 0, none⟩ := by
              obtain ⟨wl, h⟩ := OJ.out.gw
              exact row_addr h.row (by have := HM.out; omega)
            subst haw
            obtain ⟨k0, k1, k2, -, -⟩ := OJ.out.cells hg
            obtain ⟨av, cv, hvv⟩ : ∃ av cv, g.2 = .slice av g.1.puts.length cv := by
              obtain ⟨wl, h⟩ := OJ.out.gw
              exact row_slice (h.rows g (List.mem_of_getElem? hg))
            have RV : Hid (wr.ownsRow 0 28 2 (.slice av g.1.puts.length cv) g.1.puts.length (pcells g.1.puts)) := Lib.hid (by
              obtain ⟨wl, h⟩ := OJ.out.gw
              have := h.rows g (List.mem_of_getElem? hg)
              rw [hvv] at this
              exact this)
            have HNB2 : Hid ((∀ i, (Value.slice av g.1.puts.length cv).ownBlock = some i → i ∉ (Value.slice at0 ((Q.take j).map (·.tid)).length ct0).ownBlock.toList ++ (Value.slice aa0 ((Q.take j).flatMap (·.puts)).length ca0).ownBlock.toList) ∧ gb ∉ (Value.slice at0 ((Q.take j).map (·.tid)).length ct0).ownBlock.toList ++ (Value.slice aa0 ((Q.take j).flatMap (·.puts)).length ca0).ownBlock.toList) := Lib.hid (by
              obtain ⟨ow, wl, e1, e2, e3, e4, e5, e7, e6⟩ := OJ.out
              refine ⟨fun i hi hm => (e7 i hm).2.1 (e2.hrow g (List.mem_of_getElem? hg) i (by rw [hvv]; exact hi)), fun hm => (e7 gb hm).2.1 (e2.hw gb rfl)⟩)
            rw [hvv] at k1
            obtain ⟨P, hP⟩ : ∃ P, P = g.1.puts := ⟨_, rfl⟩
            obtain ⟨x, hx⟩ : ∃ x, x = g.1.tid := ⟨_, rfl⟩
            obtain ⟨n0, hn0⟩ : ∃ x, x = g.1.n := ⟨_, rfl⟩
            rw [← hP] at HTQ HP10 HFP HQAT k1 RV HNB2
            rw [← hx] at HTQ hxj HAJ HBJ HQAT k0
            rw [← hn0] at HQAT k2
            have HXJ := Lib.hid hxj
            obtain ⟨pl, hpl⟩ : ∃ pl, pl = P.length := ⟨_, rfl⟩
            have HPL := Lib.hid hpl
            rw [← hpl] at k1 RV HNB2 HP10
            obtain ⟨LT, hLT⟩ : ∃ l, l = (Q.take j).map (·.tid) := ⟨_, rfl⟩
            obtain ⟨LA, hLA⟩ : ∃ l, l = (Q.take j).flatMap (·.puts) := ⟨_, rfl⟩
            rw [← hLT] at RT HTQ OJ HNB2 ⊢
            rw [← hLA] at RA HTQ OJ HNB2 ⊢
            have hlt5 : LT.length ≤ 5 := by rw [hLT, List.length_map, List.length_take]; have := HML.out; omega
            have hla5 : LA.length ≤ 50 := by
              have h1 := flat_few (l := Q.take j) (fun q hq => (HNUM.out q (List.mem_of_mem_take hq)).2.2.2)
              rw [← hLA, List.length_take] at h1
              have := HML.out
              omega
            obtain ⟨lt, hlt⟩ : ∃ x, x = LT.length := ⟨_, rfl⟩
            obtain ⟨la, hla⟩ : ∃ x, x = LA.length := ⟨_, rfl⟩
            have HLT := Lib.hid hlt
            have HLA := Lib.hid hla
            rw [← hlt] at RT OJ HNB2 hlt5 ⊢
            rw [← hla] at RA OJ HNB2 hla5 ⊢
            have hbj : 0 ≤ (j : Int) ∧ (j : Int) < (m : Int) := by omega
            have HJM := Lib.hid hjm
            have K0 := Lib.hid k0
            have K1 := Lib.hid k1
            have K2 := Lib.hid k2
            obtain ⟨i0, hi, hz0, hz1, hz2⟩ := info_parts Tryz.putrow
            have HI0 := Lib.hid (And.intro hi (And.intro hz0 (And.intro hz1 hz2)))
            obtain ⟨i1, hi1, hy0, hy1, hy2⟩ := info_parts L.Tryz.introw
            have HI1 := Lib.hid (And.intro hi1 (And.intro hy0 (And.intro hy1 hy2)))
            clear hg hqj hgm hxj hsp hri hvv hP hx hn0 hpl hLT hLA hlt hla hjm hj k0 k1 k2 hi hz0 hz1 hz2 hi1 hy0 hy1 hy2
            go_upto_region 54 with fail
            go_cut [15, 16] from 226 to 240 (fun v15 v16 wx => wx.ownsRow 0 2 1 v15 ((Q.take (j + 1)).map (·.tid)).length (i64s ((Q.take (j + 1)).map (·.tid))) ∧ wx.ownsRow 0 28 2 v16 ((Q.take (j + 1)).flatMap (·.puts)).length (pcells ((Q.take (j + 1)).flatMap (·.puts))) ∧ Bo w wx (v15.ownBlock.toList ++ v16.ownBlock.toList) b nm ticks Q ticks (.slice (some ⟨gb, 0, none⟩) m cw) G ∧ ∃ l, Turn l wr wx ∧ gb ∉ l ∧ ∀ i, (Value.slice av pl cv).ownBlock = some i → i ∉ l)
            case first => as_aux_lemma =>
              have HS : Hid (∀ y, Turn ((Value.slice at0 lt ct0).ownBlock.toList ++ (Value.slice aa0 la ca0).ownBlock.toList) wr y → y.cell? ⟨gb, j * 4, none⟩ = some (.int .i64 x) ∧ y.cell? ⟨gb, j * 4 + 1, none⟩ = some (.slice av pl cv)) := Lib.hid (fun y ty => ⟨ty.cell K0.out HNB2.out.2, ty.cell K1.out HNB2.out.2⟩)
              have T0 := Lib.hid (Turn.refl ((Value.slice at0 lt ct0).ownBlock.toList ++ (Value.slice aa0 la ca0).ownBlock.toList) wr)
              have TD := Lib.hid (Turn.drew ((Value.slice at0 lt ct0).ownBlock.toList ++ (Value.slice aa0 la ca0).ownBlock.toList) wr)
              have hS := HS.out _ TD.out
              refine Pq.start [] (fun y => y.cell? ⟨gb, j * 4, none⟩ = some (.int .i64 x) ∧ y.cell? ⟨gb, j * 4 + 1, none⟩ = some (.slice av pl cv)) (fun _ => True) (by kernel_rfl) ?_
              refine Pq.tk 0 (some 226) (v := ?_) hS ?_ ?_
              rotate_left
              · (intro y hy; obtain ⟨z0, z1⟩ := hy; go_simp; try with_reducible rfl)
              simp only [Act.put, List.setIfInBounds_toArray, List.set_cons_zero, List.set_cons_succ]
              refine Pq.tk 1 (some 227) (v := ?_) hS ?_ ?_
              rotate_left
              · (intro y hy; obtain ⟨z0, z1⟩ := hy; go_simp; try with_reducible rfl)
              simp only [Act.put, List.setIfInBounds_toArray, List.set_cons_zero, List.set_cons_succ]
              refine Pq.tk 2 (some 228) (v := ?_) hS ?_ ?_
              rotate_left
              · (intro y hy; obtain ⟨z0, z1⟩ := hy; go_simp; try with_reducible rfl)
              simp only [Act.put, List.setIfInBounds_toArray, List.set_cons_zero, List.set_cons_succ]
              refine Pq.tk 3 (some 229) (v := ?_) hS ?_ ?_
              rotate_left
              · (intro y hy; obtain ⟨z0, z1⟩ := hy; go_simp; try with_reducible rfl)
              simp only [Act.put, List.setIfInBounds_toArray, List.set_cons_zero, List.set_cons_succ]
              refine Pq.tk 4 (some 230) (v := ?_) hS ?_ ?_
              rotate_left
              · (intro y hy; obtain ⟨z0, z1⟩ := hy; go_simp; try with_reducible rfl)
              simp only [Act.put, List.setIfInBounds_toArray, List.set_cons_zero, List.set_cons_succ]
              refine Pq.tk 5 (some 231) (v := ?_) hS ?_ ?_
              rotate_left
              · (intro y hy; obtain ⟨z0, z1⟩ := hy; go_simp; try with_reducible rfl)
              simp only [Act.put, List.setIfInBounds_toArray, List.set_cons_zero, List.set_cons_succ]
              refine Pq.tk 8 (some 234) (v := ?_) hS ?_ ?_
              rotate_left
              · (intro y hy; obtain ⟨z0, z1⟩ := hy; go_simp; try with_reducible rfl)
              simp only [Act.put, List.setIfInBounds_toArray, List.set_cons_zero, List.set_cons_succ]
              refine Pq.tk 9 (some 235) (v := ?_) hS ?_ ?_
              rotate_left
              · (intro y hy; obtain ⟨z0, z1⟩ := hy; go_simp; try with_reducible rfl)
              simp only [Act.put, List.setIfInBounds_toArray, List.set_cons_zero, List.set_cons_succ]
              refine Pq.tk 10 (some 236) (v := ?_) hS ?_ ?_
              rotate_left
              · (intro y hy; obtain ⟨z0, z1⟩ := hy; go_simp; try with_reducible rfl)
              simp only [Act.put, List.setIfInBounds_toArray, List.set_cons_zero, List.set_cons_succ]
              refine Pq.tk 11 (some 237) (v := ?_) hS ?_ ?_
              rotate_left
              · (intro y hy; obtain ⟨z0, z1⟩ := hy; go_simp; try with_reducible rfl)
              simp only [Act.put, List.setIfInBounds_toArray, List.set_cons_zero, List.set_cons_succ]
              refine Pq.tk 12 (some 238) (v := ?_) hS ?_ ?_
              rotate_left
              · (intro y hy; obtain ⟨z0, z1⟩ := hy; go_simp; try with_reducible rfl)
              simp only [Act.put, List.setIfInBounds_toArray, List.set_cons_zero, List.set_cons_succ]
              refine Pq.tk 13 (some 239) (v := ?_) hS ?_ ?_
              rotate_left
              · (intro y hy; obtain ⟨z0, z1⟩ := hy; go_simp; try with_reducible rfl)
              simp only [Act.put, List.setIfInBounds_toArray, List.set_cons_zero, List.set_cons_succ]
              refine Pq.one (i := 6) (by kernel_rfl) rfl ?_
              intro K0 hK
              rw [if_pos (by rfl)]
              go_simp
              have TT6 := Lib.hid ((Turn.alloc [] wr (.cells #[.int .i64 x] 2)).trans (Turn.drew [] _) (by simp))
              have T1 := Lib.hid (T0.out.trans TT6.out (by simp))
              have HN1 : Hid (((wr.alloc (.cells #[.int .i64 x] 2)).drew).heap[wr.heap.size]? = some (.cells #[.int .i64 x] 2)) := Lib.hid ((Turn.drew [] _).heap (heap_alloc_new wr (.cells #[.int .i64 x] 2)) (by simp))
              have RT1 := Lib.hid (ownsRow_turn RT.out TT6.out (by simp))
              have RA1 := Lib.hid (ownsRow_turn RA.out TT6.out (by simp))
              refine hK _ _ (HS.out _ T1.out) (.inr id) ?_
              clear hK K0
              generalize (wr.alloc (.cells #[.int .i64 x] 2)).drew = y1 at *
              generalize wr.heap.size = qn at *
              refine Pq.one (i := 7) (by kernel_rfl) rfl ?_
              intro K0 hK
              refine step_append_src Tryz.underlying37 HI1.out.1 HI1.out.2.1 HI1.out.2.2.1 HI1.out.2.2.2 rfl (by decide) rfl (.tmp 226) (.tmp 232) rfl 0 (.slice at0 lt ct0) lt (i64s LT) rfl RT1.out (Nat.zero_le _) _ 1 1 [.int .i64 x] rfl (src_one HN1.out) (by intro u hu; simp at hu; rw [hu]; rfl) (by omega) (by omega) (fun v7 y2 r7 g7 o7 => ?_)
              have TG7 := Lib.hid (Turn.grown (l := (Value.slice at0 lt ct0).ownBlock.toList) g7 (fun i hi => .inl (by simp [hi])))
              have T2 := Lib.hid (T1.out.trans TG7.out (fun i hi => .inl (List.mem_append.2 (.inl hi))))
              have R7 := Lib.hid r7
              have N7 : Hid (∀ k, v7.ownBlock = some k → k ∈ (Value.slice at0 lt ct0).ownBlock.toList ++ (Value.slice aa0 la ca0).ownBlock.toList ∨ wr.heap.size ≤ k) := Lib.hid (fun k hk => by
                rcases o7 with e | e
                · exact .inl (List.mem_append.2 (.inl (by rw [← e]; simp [hk])))
                · rw [e] at hk
                  cases hk
                  exact .inr T1.out.size)
              have RA2 := Lib.hid (ownsRow_turn RA1.out TG7.out (fun i hi e => by
                obtain ⟨c1, h1⟩ := row_block RA1.out hi
                obtain ⟨c2, h2⟩ := row_block RT1.out (k := i) (Option.mem_toList.1 e)
                exact ty_ne h1 h2 (by decide) rfl))
              obtain ⟨a7, c7, hv7⟩ := row_slice r7
              subst hv7
              refine hK _ _ (HS.out _ T2.out) (.inr id) ?_
              clear hK K0 r7 g7 o7
              refine Pq.one (i := 14) (by kernel_rfl) rfl ?_
              intro K0 hK
              refine step_append_src Tryz.underlying32 HI0.out.1 HI0.out.2.1 HI0.out.2.2.1 HI0.out.2.2.2 rfl (by decide) rfl (.tmp 234) (.tmp 239) rfl 0 (.slice aa0 la ca0) la (pcells LA) rfl RA2.out (Nat.zero_le _) _ pl cv (pcells P) rfl (row_src (ownsRow_turn RV.out T2.out HNB2.out.1) (by rw [pcells_length, HPL.out])) (pcells_one _) (by have := HP10.out; omega) (by have := HP10.out; omega) (fun v14 y3 r14 g14 o14 => ?_)
              have TG14 := Lib.hid (Turn.grown (l := (Value.slice aa0 la ca0).ownBlock.toList) g14 (fun i hi => .inl (by simp [hi])))
              have T3 := Lib.hid (T2.out.trans TG14.out (fun i hi => .inl (List.mem_append.2 (.inr hi))))
              have R14 := Lib.hid r14
              have N14 : Hid (∀ k, v14.ownBlock = some k → k ∈ (Value.slice at0 lt ct0).ownBlock.toList ++ (Value.slice aa0 la ca0).ownBlock.toList ∨ wr.heap.size ≤ k) := Lib.hid (fun k hk => by
                rcases o14 with e | e
                · exact .inl (List.mem_append.2 (.inr (by rw [← e]; simp [hk])))
                · rw [e] at hk
                  cases hk
                  exact .inr T2.out.size)
              have R7f := Lib.hid (ownsRow_turn R7.out TG14.out (fun i hi e => by
                obtain ⟨c1, h1⟩ := row_block R7.out hi
                obtain ⟨c2, h2⟩ := row_block RA2.out (k := i) (Option.mem_toList.1 e)
                exact ty_ne h1 h2 (by decide) rfl))
              obtain ⟨a14, c14, hv14⟩ := row_slice r14
              subst hv14
              refine hK _ _ (HS.out _ T3.out) (.inr id) ?_
              clear hK K0 r14 g14 o14
              have R14f := R14
              clear hS
              have hS := HS.out _ T3.out
              refine Pq.tk 15 (some 15) (v := ?_) hS ?_ ?_
              rotate_left
              · (intro y hy; go_simp; try with_reducible rfl)
              refine Pq.tk 16 (some 16) (v := ?_) hS ?_ ?_
              rotate_left
              · (intro y hy; go_simp; try with_reducible rfl)
              refine Pq.done (by kernel_rfl) ?_ _
              go_wp2_with fail
              go_meet
              refine ⟨by rw [HTQ.out.1, List.length_append, i64s_append, ← HLT.out]; exact R7f.out, by rw [HTQ.out.2, List.length_append, pcells_append, ← HLA.out, ← HPL.out]; exact R14f.out, OJ.out.extra T3.out (fun k hk => hk) (fun k hk => ?_), _, T3.out, HNB2.out.2, HNB2.out.1⟩
              rcases List.mem_append.1 hk with h | h
              · exact ⟨N7.out k (Option.mem_toList.1 h), (R7f.out.lt k (Option.mem_toList.1 h)).2⟩
              · exact ⟨N14.out k (Option.mem_toList.1 h), (R14f.out.lt k (Option.mem_toList.1 h)).2⟩
            case rest => as_aux_lemma =>
              obtain ⟨r15, r16, ob, lz, tz, hz1, hz2⟩ := hcut
              have R15 := Lib.hid r15
              have R16 := Lib.hid r16
              have OB := Lib.hid ob
              have k0 := tz.cell K0.out hz1
              have k1 := tz.cell K1.out hz1
              have k2 := tz.cell K2.out hz1
              have RVZ := Lib.hid (ownsRow_turn RV.out tz hz2)
              obtain ⟨a15, c15, hv15⟩ := row_slice r15
              obtain ⟨a16, c16, hv16⟩ := row_slice r16
              obtain ⟨L5, hL5⟩ : ∃ x, x = ((Q.take (j + 1)).map (·.tid)).length := ⟨_, rfl⟩
              obtain ⟨L6, hL6⟩ : ∃ x, x = ((Q.take (j + 1)).flatMap (·.puts)).length := ⟨_, rfl⟩
              have HL5 := Lib.hid hL5
              have HL6 := Lib.hid hL6
              rw [← hL5] at hv15 R15
              rw [← hL6] at hv16 R16
              subst hv15 hv16
              clear hL5 hL6
              clear r15 r16 ob tz hz1 hz2 RT RA OJ RV K0 K1 K2
              have HS := Lib.hid (fun (y : World) (ty : Turn [] wc y) => And.intro (ty.cell k0 (by simp)) (And.intro (ty.cell k1 (by simp)) (ty.cell k2 (by simp))))
              have CN := Lib.hid (fun (y : World) (ty : Turn [] wc y) => (OB.out.quiet ty).ls.choose_spec.n_calls HQAT.out HXJ.out HAJ.out HBJ.out)
              have CP := Lib.hid (fun (y : World) (ty : Turn [] wc y) => (OB.out.quiet ty).ls.choose_spec.puts_calls HQAT.out HXJ.out HAJ.out HBJ.out)
              rw [← HPL.out] at CP
              have CE : Hid (∀ (y : World) (ao : Option Addr) (c base : Nat), Turn [] wc y → y.ownsRow base 28 2 (.slice ao pl c) pl (pcells P) → Calls Tryz.prog 22 #[.slice ao pl c, .slice av pl cv] y fun e w' => e = .returned (.bool true) ∧ Turn [] y w') := Lib.hid (fun y ao c base ty hr => by
                have h1 := own_ps13 (l := P) (by rw [← HPL.out]; exact hr) HFP.out
                have h2 := own_ps13 (l := P) (by rw [← HPL.out]; exact ownsRow_turn RVZ.out ty (by simp)) HFP.out
                have h3 := eqPuts_calls h1 h2
                rw [← HPL.out] at h3
                refine h3.mono ?_
                rintro e w' ⟨rfl, d, rfl⟩
                exact ⟨by simp, Turn.drewN [] y d⟩)
              clear k0 k1 k2
              go_upto_region 55 with fail
              have TD := Lib.hid (Turn.drew [] wc)
              have hS := HS.out _ TD.out
              refine Pq.start [] (fun y => y.cell? ⟨gb, j * 4, none⟩ = some (.int .i64 x) ∧ y.cell? ⟨gb, j * 4 + 1, none⟩ = some (.slice av pl cv) ∧ y.cell? ⟨gb, j * 4 + 2, none⟩ = some (.int .i64 n0)) (fun _ => True) (by kernel_rfl) ?_
              refine Pq.tk 0 (some 241) (v := ?_) hS ?_ ?_
              rotate_left
              · (intro y hy; obtain ⟨z0, z1, z2⟩ := hy; go_simp; try with_reducible rfl)
              simp only [Act.put, List.setIfInBounds_toArray, List.set_cons_zero, List.set_cons_succ]
              refine Pq.tk 1 (some 242) (v := ?_) hS ?_ ?_
              rotate_left
              · (intro y hy; obtain ⟨z0, z1, z2⟩ := hy; go_simp; try with_reducible rfl)
              simp only [Act.put, List.setIfInBounds_toArray, List.set_cons_zero, List.set_cons_succ]
              refine Pq.tk 2 (some 243) (v := ?_) hS ?_ ?_
              rotate_left
              · (intro y hy; obtain ⟨z0, z1, z2⟩ := hy; go_simp; try with_reducible rfl)
              simp only [Act.put, List.setIfInBounds_toArray, List.set_cons_zero, List.set_cons_succ]
              refine Pq.tk 3 (some 244) (v := ?_) hS ?_ ?_
              rotate_left
              · (intro y hy; obtain ⟨z0, z1, z2⟩ := hy; go_simp; try with_reducible rfl)
              simp only [Act.put, List.setIfInBounds_toArray, List.set_cons_zero, List.set_cons_succ]
              refine Pq.tk 4 (some 245) (v := ?_) hS ?_ ?_
              rotate_left
              · (intro y hy; obtain ⟨z0, z1, z2⟩ := hy; go_simp; try with_reducible rfl)
              simp only [Act.put, List.setIfInBounds_toArray, List.set_cons_zero, List.set_cons_succ]
              refine Pq.tk 5 (some 246) (v := ?_) hS ?_ ?_
              rotate_left
              · (intro y hy; obtain ⟨z0, z1, z2⟩ := hy; go_simp; try with_reducible rfl)
              simp only [Act.put, List.setIfInBounds_toArray, List.set_cons_zero, List.set_cons_succ]
              refine Pq.tk 7 (some 248) (v := ?_) hS ?_ ?_
              rotate_left
              · (intro y hy; obtain ⟨z0, z1, z2⟩ := hy; go_simp; try with_reducible rfl)
              simp only [Act.put, List.setIfInBounds_toArray, List.set_cons_zero, List.set_cons_succ]
              refine Pq.tk 8 (some 249) (v := ?_) hS ?_ ?_
              rotate_left
              · (intro y hy; obtain ⟨z0, z1, z2⟩ := hy; go_simp; try with_reducible rfl)
              simp only [Act.put, List.setIfInBounds_toArray, List.set_cons_zero, List.set_cons_succ]
              refine Pq.tk 9 (some 250) (v := ?_) hS ?_ ?_
              rotate_left
              · (intro y hy; obtain ⟨z0, z1, z2⟩ := hy; go_simp; try with_reducible rfl)
              simp only [Act.put, List.setIfInBounds_toArray, List.set_cons_zero, List.set_cons_succ]
              refine Pq.tk 10 (some 251) (v := ?_) hS ?_ ?_
              rotate_left
              · (intro y hy; obtain ⟨z0, z1, z2⟩ := hy; go_simp; try with_reducible rfl)
              simp only [Act.put, List.setIfInBounds_toArray, List.set_cons_zero, List.set_cons_succ]
              refine Pq.tk 11 (some 252) (v := ?_) hS ?_ ?_
              rotate_left
              · (intro y hy; obtain ⟨z0, z1, z2⟩ := hy; go_simp; try with_reducible rfl)
              simp only [Act.put, List.setIfInBounds_toArray, List.set_cons_zero, List.set_cons_succ]
              refine Pq.one (i := 6) (by kernel_rfl) rfl ?_
              intro K0 hK
              rw [if_pos (by rfl)]
              go_simp
              refine (CN.out _ TD.out).mono ?_
              rintro e z1 ⟨rfl, t1⟩
              have T1 := Lib.hid (TD.out.trans t1 (by simp))
              refine hK _ _ (HS.out _ T1.out) (.inr id) ?_
              clear hK K0 hS t1
              have hS := HS.out _ T1.out
              refine Pq.tk 12 (some 253) (v := ?_) hS ?_ ?_
              rotate_left
              · (intro y hy; obtain ⟨z0, z1, z2⟩ := hy; go_simp; try with_reducible rfl)
              simp only [Act.put, List.setIfInBounds_toArray, List.set_cons_zero, List.set_cons_succ]
              refine Pq.tk 13 (some 254) (v := ?_) hS ?_ ?_
              rotate_left
              · (intro y hy; obtain ⟨z0, z1, z2⟩ := hy; go_simp; try with_reducible rfl)
              simp only [Act.put, List.setIfInBounds_toArray, List.set_cons_zero, List.set_cons_succ]
              refine Pq.tk 14 (some 255) (v := ?_) hS ?_ ?_
              rotate_left
              · (intro y hy; obtain ⟨z0, z1, z2⟩ := hy; go_simp; try with_reducible rfl)
              simp only [Act.put, List.setIfInBounds_toArray, List.set_cons_zero, List.set_cons_succ]
              refine Pq.tk 15 (some 256) (v := ?_) hS ?_ ?_
              rotate_left
              · (intro y hy; obtain ⟨z0, z1, z2⟩ := hy; go_simp; try with_reducible rfl)
              simp only [Act.put, List.setIfInBounds_toArray, List.set_cons_zero, List.set_cons_succ]
              refine Pq.tk 16 (some 257) (v := ?_) hS ?_ ?_
              rotate_left
              · (intro y hy; obtain ⟨z0, z1, z2⟩ := hy; go_simp; try with_reducible rfl)
              simp only [Act.put, List.setIfInBounds_toArray, List.set_cons_zero, List.set_cons_succ]
              refine Pq.tk 17 (some 258) (v := ?_) hS ?_ ?_
              rotate_left
              · (intro y hy; obtain ⟨z0, z1, z2⟩ := hy; go_simp; try with_reducible rfl)
              simp only [Act.put, List.setIfInBounds_toArray, List.set_cons_zero, List.set_cons_succ]
              refine Pq.tk 18 (some 259) (v := ?_) hS ?_ ?_
              rotate_left
              · (intro y hy; obtain ⟨z0, z1, z2⟩ := hy; go_simp; try with_reducible rfl)
              simp only [Act.put, List.setIfInBounds_toArray, List.set_cons_zero, List.set_cons_succ]
              refine Pq.tk 19 (some 260) (v := ?_) hS ?_ ?_
              rotate_left
              · (intro y hy; obtain ⟨z0, z1, z2⟩ := hy; go_simp; try with_reducible rfl)
              simp only [Act.put, List.setIfInBounds_toArray, List.set_cons_zero, List.set_cons_succ]
              refine Pq.tk 21 (some 262) (v := ?_) hS ?_ ?_
              rotate_left
              · (intro y hy; obtain ⟨z0, z1, z2⟩ := hy; go_simp; try with_reducible rfl)
              simp only [Act.put, List.setIfInBounds_toArray, List.set_cons_zero, List.set_cons_succ]
              refine Pq.tk 22 (some 263) (v := ?_) hS ?_ ?_
              rotate_left
              · (intro y hy; obtain ⟨z0, z1, z2⟩ := hy; go_simp; try with_reducible rfl)
              simp only [Act.put, List.setIfInBounds_toArray, List.set_cons_zero, List.set_cons_succ]
              refine Pq.tk 23 (some 264) (v := ?_) hS ?_ ?_
              rotate_left
              · (intro y hy; obtain ⟨z0, z1, z2⟩ := hy; go_simp; try with_reducible rfl)
              simp only [Act.put, List.setIfInBounds_toArray, List.set_cons_zero, List.set_cons_succ]
              refine Pq.tk 24 (some 265) (v := ?_) hS ?_ ?_
              rotate_left
              · (intro y hy; obtain ⟨z0, z1, z2⟩ := hy; go_simp; try with_reducible rfl)
              simp only [Act.put, List.setIfInBounds_toArray, List.set_cons_zero, List.set_cons_succ]
              refine Pq.tk 25 (some 266) (v := ?_) hS ?_ ?_
              rotate_left
              · (intro y hy; obtain ⟨z0, z1, z2⟩ := hy; go_simp; try with_reducible rfl)
              simp only [Act.put, List.setIfInBounds_toArray, List.set_cons_zero, List.set_cons_succ]
              refine Pq.one (i := 20) (by kernel_rfl) rfl ?_
              intro K0 hK
              rw [if_pos (by rfl)]
              go_simp
              refine (CP.out _ T1.out).mono ?_
              rintro e z2 ⟨ap, cp, rfl, rp, t2⟩
              have T2 := Lib.hid (T1.out.trans t2 (by simp))
              have RP := Lib.hid rp
              refine hK _ _ (HS.out _ T2.out) (.inr id) ?_
              clear hK K0 hS t2 rp
              have hS := HS.out _ T2.out
              refine Pq.one (i := 26) (by kernel_rfl) rfl ?_
              intro K0 hK
              rw [if_pos (by rfl)]
              go_simp
              refine (CE.out _ _ _ _ T2.out RP.out).mono ?_
              rintro e z3 ⟨rfl, t3⟩
              have T3 := Lib.hid (T2.out.trans t3 (by simp))
              refine hK _ _ (HS.out _ T3.out) (.inr id) ?_
              clear hK K0 hS t3
              have hS := HS.out _ T3.out
              refine Pq.tk 27 (some 268) (v := ?_) hS ?_ ?_
              rotate_left
              · (intro y hy; obtain ⟨z0, z1, z2⟩ := hy; go_simp; try with_reducible rfl)
              simp only [Act.put, List.setIfInBounds_toArray, List.set_cons_zero, List.set_cons_succ]
              refine Pq.tk 28 (some 269) (v := ?_) hS ?_ ?_
              rotate_left
              · (intro y hy; obtain ⟨z0, z1, z2⟩ := hy; go_simp; try with_reducible rfl)
              refine Pq.done (by kernel_rfl) ?_ _
              go_wp2_with fail
              go_roundw
              case rel => exact ⟨j + 1, by have := HJM.out; omega, by go_num, by rw [← HL5.out]; exact ownsRow_turn R15.out T3.out (by simp), by rw [← HL6.out]; exact ownsRow_turn R16.out T3.out (by simp), OB.out.quiet T3.out⟩
              case measure => have := HJM.out; simp [intOf]; omega
          · have hjj : j = m := by omega
            subst hjj
            have hlt2 : ¬ ((j : Int) < (j : Int)) := by omega
            have hfq : Q.take j = Q := List.take_of_length_le (by rw [HML.out]; exact Nat.le_refl _)
            rw [hfq] at RT RA OJ ⊢
            obtain ⟨LT, hLT⟩ : ∃ l, l = Q.map (·.tid) := ⟨_, rfl⟩
            obtain ⟨LA, hLA⟩ : ∃ l, l = Q.flatMap (·.puts) := ⟨_, rfl⟩
            have HLTQ := Lib.hid hLT
            have HLAQ := Lib.hid hLA
            rw [← hLT] at RT OJ ⊢
            rw [← hLA] at RA OJ ⊢
            have HFA : Hid (∀ p ∈ LA, p.1.size ≤ 9223372036854775807 ∧ p.2.size ≤ 9223372036854775807) := Lib.hid (by
              rw [hLA]
              intro p hp
              obtain ⟨q, hq, hp2⟩ := List.mem_flatMap.1 hp
              exact HFIT.out q hq p hp2)
            have HL1 : Hid (LT.length ≤ 1000000) := Lib.hid (by rw [hLT, List.length_map, HML.out]; omega)
            obtain ⟨lt, hlt⟩ : ∃ x, x = LT.length := ⟨_, rfl⟩
            obtain ⟨la, hla⟩ : ∃ x, x = LA.length := ⟨_, rfl⟩
            have HLT := Lib.hid hlt
            have HLA := Lib.hid hla
            rw [← hlt] at RT OJ ⊢
            rw [← hla] at RA OJ ⊢
            have O9 := Lib.hid (OJ.out.less (el' := []) (by simp))
            have CT : Hid (∀ y, Turn [] wr y → Calls Tryz.prog 24 #[.pointer (some ⟨b, 0, none⟩)] y fun e w' => ∃ g, e = .returned (.slice (some ⟨g, 0, none⟩) lt lt) ∧ w'.ownsRow 0 2 1 (.slice (some ⟨g, 0, none⟩) lt lt) lt (i64s LT) ∧ Turn [] y w') := Lib.hid (fun y ty => by
              refine (tids_calls (O9.out.quiet ty).ls.choose_spec).mono ?_
              rintro e w' ⟨g, rfl, hr, t⟩
              have e1 : Q.length = lt := by rw [HLT.out, HLTQ.out, List.length_map]
              have e2 : (Q.map fun q => Value.int .i64 q.tid) = i64s LT := by rw [HLTQ.out, i64s, List.map_map]; rfl
              rw [e1, e2] at hr
              rw [e1]
              exact ⟨g, rfl, ownsRow_base hr (fun _ _ => Nat.zero_le _), t⟩)
            have CA : Hid (∀ y, Turn [] wr y → Calls Tryz.prog 25 #[.pointer (some ⟨b, 0, none⟩)] y fun e w' => ∃ ao c, e = .returned (.slice ao la c) ∧ w'.ownsRow 0 28 2 (.slice ao la c) la (pcells LA) ∧ Turn [] y w') := Lib.hid (fun y ty => by
              refine (lall_calls (O9.out.quiet ty).ls.choose_spec).mono ?_
              rintro e w' ⟨v, rfl, hr, t⟩
              rw [← HLAQ.out, ← HLA.out] at hr
              obtain ⟨ao, c, rfl⟩ := row_slice hr
              exact ⟨ao, c, rfl, ownsRow_base hr (fun _ _ => Nat.zero_le _), t⟩)
            have CN : Hid (∀ y, Turn [] wr y → Calls Tryz.prog 21 #[.pointer (some ⟨b, 0, none⟩), .int .i64 99] y fun e w' => e = .returned (.int .i64 0) ∧ Turn [] y w') := Lib.hid (fun y ty => (O9.out.quiet ty).ls.choose_spec.n_calls (A := Q) (B := []) (P := []) (.inl ⟨by simp, rfl, rfl, by rw [HML.out]; omega⟩) (by unfold inI64; omega) (fun q hq => by have := (H5.out q hq).2.1; omega) (by simp))
            clear hfq hLT hLA hlt hla OJ hjm hj
            go_wp2_with fail
            refine (CT.out _ (Turn.refl _ _)).mono ?_
            rintro e z1 ⟨g1, rfl, r1, t1⟩
            have E1 := eq13_calls (l := LT) (row_sr (by rw [← HLT.out]; exact r1)) (row_sr (by rw [← HLT.out]; exact ownsRow_turn RT.out t1 (by simp))) HL1.out
            rw [← HLT.out] at E1
            have E1 := Lib.hid E1
            have T1 := Lib.hid t1
            clear r1 t1
            go_wp2_with fail
            refine E1.out.mono ?_
            rintro e z2 ⟨rfl, t2⟩
            have T2 := Lib.hid (T1.out.trans t2 (by simp))
            clear t2 E1
            go_wp2_with fail
            refine (CA.out _ T2.out).mono ?_
            rintro e z3 ⟨a3, c3, rfl, r3, t3⟩
            have T3 := Lib.hid (T2.out.trans t3 (by simp))
            have E2 := eqPuts_calls (own_ps13 (l := LA) (by rw [← HLA.out]; exact r3) HFA.out) (own_ps13 (l := LA) (by rw [← HLA.out]; exact ownsRow_turn RA.out T3.out (by simp)) HFA.out)
            rw [← HLA.out, decide_eq_true rfl] at E2
            have E2 := Lib.hid E2
            clear r3 t3
            go_wp2_with fail
            refine E2.out.mono ?_
            rintro e z4 ⟨rfl, d4, rfl⟩
            have T4 := Lib.hid (T3.out.trans (Turn.drewN [] z3 d4) (by simp))
            clear E2
            go_wp2_with fail
            refine (CN.out _ T4.out).mono ?_
            rintro e z5 ⟨rfl, t5⟩
            have B5 := Lib.hid (O9.out.quiet (T4.out.trans t5 (by simp))).bel
            clear t5
            go_wp2
            go_ret
            exact ⟨rfl, B5.out⟩

end Go.Proofs.YtjmainefmiefcaaGreat


/-
  The law 'postillionlaw13.LockAll' answers true at every input, and each argument reads behind the call as it read before: for every input, no condition; the frame round the walk 'lockAll_walk'.
-/
namespace Go.Proofs.YtjmainefmiefcaaGreat.lockAll
open Go.ChangeShapes Go.WideShapes Go.ChangeAt Go.RowKit
open Go.ChangeMaps (open_string shut_string)
set_option linter.unusedVariables false

theorem own : ownKnob Tryz.prog.godebug = none := by kernel_rfl
theorem laidOut : laidOutB Tryz.prog = true := by kernel_rfl

set_option maxRecDepth 100000 in
theorem lifted (os : Os) (started : os.Started) (H : Type) (enc : TypeId × Value → H) :
    ReturnsInHanded {} Tryz.checked os 3 .any (Rows.lockAllSpec.pre6 enc Tryz.prog Tryz.f3 Rows.lockAllRow.domain false) (Rows.lockAllSpec.post enc Tryz.prog Tryz.f3 false true false false) := by
  refine returnsInHanded_of_change (C := Tryz.checked) own started (by kernel_rfl) Tryz.func3
    (ChangeSpec.witness6 (enc := enc) (C := Tryz.checked) false ⟨#[], #[.slice none 0 0], []⟩ 8 (by kernel_rfl) (by kernel_rfl) (by kernel_rfl) (by kernel_rfl)) ?_
  intro W base args ds gs before hval0 hW hcnd _
  have hval : ∀ (j : Nat) t v, Tryz.f3.params[j]? = some t → args[j]? = some v → Value.okWide Tryz.prog W .any base t v := hval0
  have hW' := hW
  obtain ⟨p, q, hA0, hV, rfl, hfz, hnd⟩ := hW
  have hA : DataW.TrodAll enc Tryz.prog W 0 (fun _ => true) true Tryz.f3.params.toList args.toList ds p := hA0
  rw [Tryz.params3] at hA hval
  obtain ⟨v0, vs0, d0, ds0, p0, q0, hargs, rfl, rfl, h0, r0⟩ := trodAll_cons hA
  obtain ⟨rfl, rfl, rfl⟩ := trodAll_nil r0
  obtain rfl : args = #[v0] := by cases args; simp_all
  obtain ⟨rfl, rfl⟩ := trodVars_none hV
  obtain ⟨a0, len0, cap0, rfl⟩ := okWide_slice Tryz.underlying22 (hval 0 22 v0 rfl rfl)
  have k0 := h0
  have lt0 : ∀ x ∈ p0, x.block < W.heap.size := by obtain ⟨m, hm⟩ := k0; exact DataW.trod_lt m _ _ _ hm
  obtain ⟨l0, rfl, w0⟩ := open_ops13 h0
  clear hA0 hval0
  refine (lockAll_walk begun13_ok (w := W) a0 cap0 l0 w0).mono fun e W' ⟨he, bel⟩ => ?_
  subst he
  exact ⟨_, rfl, _, _, _, [], _, [], hW', trodAll_mk1 (shut_bool Tryz.underlying4 _), (trodAll_cons_mk (Below.trod laidOut (by kernel_rfl) (of_decide_eq_true (by kernel_rfl)) k0 bel lt0) trodAll_mk0), rfl, bel.frame _, fun h => by cases h⟩

theorem over : Rows.lockAllRow.holds Tryz.pinned (OpenSpec.ofChange Rows.lockAllSpec) :=
  OpenClaim.holds_of_wide 3 Tryz.f3 rfl rfl rfl rfl rfl rfl rfl ⟨rfl, rfl, rfl, rfl, rfl⟩ rfl rfl rfl rfl rfl (by kernel_rfl) Tryz.func3 (by kernel_rfl)
    (of_decide_eq_true (by kernel_rfl)) (by unfold Func.isWrapper; first | (rw [if_pos (by decide +kernel)]; kernel_rfl) | (rw [if_neg (by decide +kernel)]; exact ⟨rfl, rfl⟩))
    (fun os started H enc _ => lifted os started H enc)

/-- The statement. -/
theorem proved : Rows.LockAllSaid := over
end Go.Proofs.YtjmainefmiefcaaGreat.lockAll
