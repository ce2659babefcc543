/-
  Of the texts SsO SsF RecE RecEnc RecR LrecWalk, in build order, each as it was built alone.
-/
import Derived.Test.YtjmainefmiefcaaGreatPkAI
import Derived.Test.YtjmainefmiefcaaGreatPkAD
import Derived.Test.YtjmainefmiefcaaGreatPkAF
import Derived.Test.YtjmainefmiefcaaGreatPkAB

/-
  Sessions' own calls: Of, Open, New; the nil Sessions'.
-/
namespace Go.Proofs.YtjmainefmiefcaaGreat.Ss
open Go.RowKit

set_option maxHeartbeats 4000000 in
set_option maxRecDepth 100000 in
theorem of_zero (p : Value) (w : World) : Calls Tryz.prog 34 #[p, .int .i64 0] w fun e w' => e = .returned (.int .i64 0) ∧ Turn [] w w' := by
  go_enter Tryz.func34, Tryz.ntmps34
  go_wp2
  go_ret
  exact ⟨rfl, Turn.refl _ _⟩

set_option maxHeartbeats 4000000 in
set_option maxRecDepth 100000 in
/-- Of: whose it is. -/
theorem of_calls {w : World} {ow : List Nat} {b tb mb n : Nat} {br : Int} {made : Nat} {ticks : Int} {tv : Value} {S : List Sq} (h : Sk w ow b tb mb n br made ticks tv S) {t : Int} (ht : t ≠ 0) :
    Calls Tryz.prog 34 #[.pointer (some ⟨b, 0, none⟩), .int .i64 t] w fun e w' => e = .returned (.int .i64 (ofZ t S)) ∧ Turn [] w w' := by
  have H := Lib.hid h
  have hC := L.all_calls h.tim
  rw [List.length_map, List.map_map] at hC
  have C := Lib.hid hC
  have hfew := h.few
  obtain ⟨m, hm⟩ : ∃ m, m = S.length := ⟨_, rfl⟩
  have HN := Lib.hid hm
  rw [← hm] at C hfew
  obtain ⟨ans, hans⟩ : ∃ a, a = ofZ t S := ⟨_, rfl⟩
  have HA := Lib.hid hans
  rw [← hans]
  clear h hC hm hans
  go_enter Tryz.func34, Tryz.ntmps34
  go_wp2_with fail
  refine (heard_calls H.out.head).mono ?_
  rintro e w1 ⟨rfl, rfl⟩
  go_wp2_with fail
  refine C.out.mono ?_
  rintro e w2 ⟨rfl, hr, hb⟩
  have R := Lib.hid hr
  have T := Lib.hid (Turn.of_below hb [])
  obtain ⟨g, hg⟩ : ∃ g, g = w1.heap.size := ⟨_, rfl⟩
  rw [← hg] at R ⊢
  clear hr hb C hg
  go_wp2_with fail
  go_loopw [6, 13] (fun _ vi wx => ∃ (k : Nat), k ≤ m ∧ vi = .int .i64 (k : Int) ∧ ans = ofZ t (S.drop k) ∧ wx = w2) (fun _ vi _ => m - (intOf vi).toNat)
  case atStart => exact ⟨0, by omega, rfl, HA.out, rfl⟩
  case round =>
    obtain ⟨k, hk, rfl, hof, rfl⟩ := hrel
    have HO := Lib.hid hof
    clear hof
    by_cases hkn : k < m
    · have hkl : k < S.length := by rw [← HN.out]; exact hkn
      have hcell : wr.cell? ⟨g, k, none⟩ = some (.int .i64 S[k].id) := by
        have := R.out.cells (g := g) rfl k (.int .i64 S[k].id) (by rw [List.getElem?_map, List.getElem?_eq_getElem hkl]; rfl)
        rwa [Addr.add_lit, Nat.zero_add] at this
      have hmem : S[k] ∈ S := List.getElem_mem hkl
      have hD := tid_calls (H.out.turn T.out (by simp)) (H.out.num hmem).1
      rw [tidAt_is H.out.ris hmem] at hD
      have hof := HO.out
      rw [ofZ_drop hkl] at hof
      have D := Lib.hid hD
      obtain ⟨x, hx⟩ : ∃ x, x = S[k].id := ⟨_, rfl⟩
      obtain ⟨z, hz⟩ : ∃ z, z = S[k].tid := ⟨_, rfl⟩
      rw [← hx] at hcell D hof
      rw [← hz] at D hof
      have hb : 0 ≤ (k : Int) ∧ (k : Int) < (m : Int) := by omega
      have hb2 : (k : Int) < (m : Int) := hb.2
      by_cases hzt : z = t
      · rw [if_pos hzt] at hof
        have HF := Lib.hid hof
        have hzt' : (z == t) = true := by simpa using hzt
        clear hD hx hz hmem HO hof
        go_wp2_with fail
        refine D.out.mono ?_
        rintro e w4 ⟨rfl, rfl⟩
        go_wp2
        go_ret
        exact ⟨congrArg (fun z => Ending.returned (Value.int .i64 z)) HF.out.symm, T.out⟩
      · rw [if_neg hzt] at hof
        have HF := Lib.hid hof
        clear hD hx hz hmem HO hof
        go_wp2_with fail
        refine D.out.mono ?_
        rintro e w4 ⟨rfl, rfl⟩
        go_wp2_with fail
        go_roundw
        case rel => exact ⟨k + 1, by omega, by go_num, HF.out, by trivial⟩
        case measure => simp [intOf]; omega
    · have hkk : k = m := by omega
      have r3 : ¬ (k : Int) < (m : Int) := by omega
      have HF : Hid (ans = 0) := Lib.hid (by rw [HO.out, List.drop_eq_nil_of_le (by rw [← HN.out]; omega)]; rfl)
      go_wp2
      go_ret
      exact ⟨congrArg (fun z => Ending.returned (Value.int .i64 z)) HF.out.symm, T.out⟩

set_option maxHeartbeats 4000000 in
set_option maxRecDepth 100000 in
/-- Open: there are as many as may be. -/
theorem open_full {w : World} {ow : List Nat} {b tb mb n : Nat} {br : Int} {made : Nat} {ticks : Int} {tv : Value} {S : List Sq} (h : Sk w ow b tb mb n br made ticks tv S) (hl : 20 ≤ S.length) :
    Calls Tryz.prog 28 #[.pointer (some ⟨b, 0, none⟩)] w fun e w' => e = .returned (.tuple #[.int .i64 0, .bool false]) ∧ Turn [] w w' := by
  have hC := L.all_calls h.tim
  rw [List.length_map, List.map_map] at hC
  have C := Lib.hid hC
  have H := Lib.hid h.head
  obtain ⟨m, hm⟩ : ∃ m, m = S.length := ⟨_, rfl⟩
  rw [← hm] at C hl
  have hl' : (20 : Int) ≤ (m : Int) := by omega
  clear h hC hm
  go_enter Tryz.func28, Tryz.ntmps28
  go_wp2_with fail
  refine (heard_calls H.out).mono ?_
  rintro e w1 ⟨rfl, rfl⟩
  go_wp2_with fail
  refine C.out.mono ?_
  rintro e w2 ⟨rfl, -, hb⟩
  have T := Lib.hid (Turn.of_below hb [])
  clear hb C
  go_wp2
  go_ret2
  exact ⟨rfl, T.out⟩

set_option maxHeartbeats 4000000 in
set_option maxRecDepth 100000 in
/-- Open: a new one. -/
theorem open_ok {w : World} {ow : List Nat} {b tb mb n : Nat} {br : Int} {made : Nat} {ticks : Int} {tv : Value} {S : List Sq} (h : Sk w ow b tb mb n br made ticks tv S) (hl : S.length < 20) (hmd : made ≤ 1000) :
    Calls Tryz.prog 28 #[.pointer (some ⟨b, 0, none⟩)] w fun e w' => ∃ tv', e = .returned (.tuple #[.int .i64 (makeZ br ((made : Int) + 1)), .bool true]) ∧ Sk w' (ow ++ tv'.ownBlock.toList) b tb mb n br (made + 1) ticks tv' (S ++ [⟨makeZ br ((made : Int) + 1), 0, ticks⟩]) ∧ Stp ow (ow ++ tv'.ownBlock.toList) w w' := by
  have hC := L.all_calls h.tim
  rw [List.length_map, List.map_map] at hC
  have C := Lib.hid hC
  have H := Lib.hid h
  have HM := Lib.hid hmd
  have HL := Lib.hid hl
  obtain ⟨m, hm⟩ : ∃ m, m = S.length := ⟨_, rfl⟩
  rw [← hm] at C hl
  have hl' : ¬ (20 : Int) ≤ (m : Int) := by omega
  have hme := make_eq (i := (made : Int) + 1) h.bro (by omega) (by omega)
  have HNW : Hid (∀ a ∈ S, a.id < makeZ br (((made + 1 : Nat) : Int))) := Lib.hid (fun a ha => by
    have := (h.num ha).2.2
    rw [show (((made + 1 : Nat) : Int)) = (made : Int) + 1 from by omega, hme]
    exact this)
  have HE : Hid (((made + 1 : Nat) : Int) = (made : Int) + 1) := Lib.hid (by omega)
  obtain ⟨x, hx⟩ : ∃ x, x = makeZ br ((made : Int) + 1) := ⟨_, rfl⟩
  have hx0 : x ≠ 0 := by have := h.bro; rw [hx, hme]; omega
  have hx0' : (x == 0) = false := by simpa using hx0
  have HX := Lib.hid hx
  rw [← hx]
  have hw : IntKind.i64.wrap ((made : Int) + 1) = (made : Int) + 1 := by rw [IntKind.wrap_i64]; omega
  clear h hC hm hme hx hl
  go_enter Tryz.func28, Tryz.ntmps28
  go_wp2_with fail
  refine (heard_calls H.out.head).mono ?_
  rintro e w1 ⟨rfl, rfl⟩
  go_wp2_with fail
  refine C.out.mono ?_
  rintro e w2 ⟨rfl, -, hb⟩
  have T := Lib.hid (Turn.of_below hb [])
  have H2 := Lib.hid (H.out.turn T.out (by simp))
  have hN := next_calls H2.out.head (by have := HM.out; omega)
  rw [← HX.out] at hN
  have N := Lib.hid hN
  clear hb C hN
  go_wp2_with fail
  refine N.out.mono ?_
  rintro e w3 ⟨rfl, t3⟩
  have T3 := Lib.hid (T.out.trans t3 (by simp))
  have H3 := Lib.hid (H2.out.turn t3 (by simp))
  clear t3 N T H2
  have c1 : w3.cell? ⟨b, 1, none⟩ = some (.int .i64 (made : Int)) := by rw [cell_of_row _ _ _ _ _ _ H3.out.head]; rfl
  have fr : w3.frozen? ⟨b, 1, none⟩ = false := unfrozen_of H3.out.head
  have M := Lib.hid (H3.out.more HM.out)
  have TB := Lib.hid (Turn.setCell (l := [b]) w3 (b := b) (i := 1) (by simp) (.int .i64 ((made : Int) + 1)))
  have c2 : (w3.setCell ⟨b, 1, none⟩ (.int .i64 ((made : Int) + 1))).cell? ⟨b, 2, none⟩ = some (.pointer (some ⟨tb, 0, none⟩)) := by rw [cell_of_row _ _ _ _ _ _ M.out.head]; rfl
  have hT := tim_new M.out.tim (by have := HL.out; omega) HNW.out 0
  rw [HE.out, ← HX.out] at hT
  have TN := Lib.hid hT
  clear hT
  go_wp2_with fail
  refine TN.out.mono ?_
  rintro e w5 ⟨tv', rfl, h5, o5, t5⟩
  have F := Lib.hid (M.out.opened HL.out (by omega) HNW.out (tv' := tv') (by rw [HE.out, ← HX.out]; exact h5) t5)
  rw [HE.out, ← HX.out] at F
  have ST := Lib.hid (Stp.of (ow := ow) (v' := tv') ((T3.out.mono (by simp) : Turn (b :: tb :: tv.ownBlock.toList) _ _).trans ((TB.out.mono (by simp)).trans (t5.mono (fun i hi => .inl (List.mem_cons_of_mem b hi))) (fun i hi => .inl hi)) (fun i hi => .inl hi)) (fun k hk => by
    rcases List.mem_cons.1 hk with rfl | hk
    · exact H3.out.hb
    · rcases List.mem_cons.1 hk with rfl | hk
      · exact H3.out.htb
      · exact H3.out.htv k (Option.mem_toList.1 hk)) (fun k hk => by
    rcases o5 with e | e
    · exact .inl (H3.out.htv k (by rw [← e]; exact hk))
    · exact .inr (Nat.le_trans T3.out.size (Nat.le_trans TB.out.size (e k hk)))))
  clear h5 o5 t5 TN
  go_wp2
  go_ret2
  exact ⟨_, rfl, F.out, ST.out⟩

set_option maxHeartbeats 4000000 in
set_option maxRecDepth 100000 in
/-- Bind: it is none. -/
theorem bind_none {w : World} {ow : List Nat} {b tb mb n : Nat} {br : Int} {made : Nat} {ticks : Int} {tv : Value} {S : List Sq} (h : Sk w ow b tb mb n br made ticks tv S) {x t : Int} (hx : ∀ q ∈ S, q.id ≠ x) :
    Calls Tryz.prog 30 #[.pointer (some ⟨b, 0, none⟩), .int .i64 x, .int .i64 t] w fun e w' => e = .returned (.bool false) ∧ Turn [] w w' := by
  obtain ⟨o, hO, ho⟩ : ∃ o, (Calls Tryz.prog 34 #[.pointer (some ⟨b, 0, none⟩), .int .i64 t] w fun e w' => e = .returned (.int .i64 o) ∧ Turn [] w w') ∧ (o = 0 ∨ (o ≠ 0 ∧ o ≠ x)) := by
    by_cases ht : t = 0
    · subst ht
      exact ⟨0, of_zero _ _, .inl rfl⟩
    · refine ⟨_, of_calls h ht, ?_⟩
      rcases ofZ_mem (t := t) (S := S) with e | ⟨q, hq, -, e⟩
      · exact .inl e
      · rw [e]
        exact .inr ⟨(h.num hq).2.1, hx q hq⟩
  have O := Lib.hid hO
  have H := Lib.hid h
  have HX := Lib.hid hx
  clear hO h hx
  go_enter Tryz.func30, Tryz.ntmps30
  go_wp2_with fail
  refine O.out.mono ?_
  rintro e w1 ⟨rfl, t1⟩
  have T := Lib.hid t1
  have C := Lib.hid (touch_none (H.out.turn t1 (by simp)) HX.out)
  clear t1 O
  rcases ho with rfl | ⟨h0, h1⟩
  · go_wp2_with fail
    refine C.out.mono ?_
    rintro e w2 ⟨rfl, t2⟩
    have T2 := Lib.hid (T.out.trans t2 (by simp))
    clear t2 C
    go_wp2
    go_ret
    exact ⟨rfl, T2.out⟩
  · go_wp2
    go_ret
    exact ⟨rfl, T.out⟩

set_option maxHeartbeats 4000000 in
set_option maxRecDepth 100000 in
/-- Bind: another one has it. -/
theorem bind_held {w : World} {ow : List Nat} {b tb mb n : Nat} {br : Int} {made : Nat} {ticks : Int} {tv : Value} {S : List Sq} (h : Sk w ow b tb mb n br made ticks tv S) {x t : Int} (ht : t ≠ 0) {q : Sq} (hq : q ∈ S) (hqt : q.tid = t) (hx : q.id ≠ x) :
    Calls Tryz.prog 30 #[.pointer (some ⟨b, 0, none⟩), .int .i64 x, .int .i64 t] w fun e w' => e = .returned (.bool false) ∧ Turn [] w w' := by
  have hO := of_calls h ht
  rw [← hqt, ofZ_is h.one hq (by rw [hqt]; exact ht), hqt] at hO
  have O := Lib.hid hO
  have h0 := (h.num hq).2.1
  obtain ⟨o, hoe⟩ : ∃ o, o = q.id := ⟨_, rfl⟩
  rw [← hoe] at O h0 hx
  clear hO h hq hqt hoe
  go_enter Tryz.func30, Tryz.ntmps30
  go_wp2_with fail
  refine O.out.mono ?_
  rintro e w1 ⟨rfl, t1⟩
  have T := Lib.hid t1
  clear t1 O
  go_wp2
  go_ret
  exact ⟨rfl, T.out⟩

set_option maxHeartbeats 4000000 in
set_option maxRecDepth 100000 in
/-- Bind. -/
theorem bind_is {w : World} {ow : List Nat} {b tb mb n : Nat} {br : Int} {made : Nat} {ticks : Int} {tv : Value} {A B : List Sq} {q : Sq} (h : Sk w ow b tb mb n br made ticks tv (A ++ q :: B)) {t : Int} (hti : inI64 t) (hfr : t = 0 ∨ ∀ r ∈ A ++ B, r.tid ≠ t) (hn : n ≤ 100000) :
    Calls Tryz.prog 30 #[.pointer (some ⟨b, 0, none⟩), .int .i64 q.id, .int .i64 t] w fun e w' => ∃ n', e = .returned (.bool true) ∧ n' ≤ n + 1 ∧ Sk w' ow b tb mb n' br made ticks tv (A ++ ⟨q.id, t, ticks⟩ :: B) ∧ Stp ow ow w w' := by
  have hx := (h.num (q := q) (by simp)).1
  obtain ⟨o, hO, ho⟩ : ∃ o, (Calls Tryz.prog 34 #[.pointer (some ⟨b, 0, none⟩), .int .i64 t] w fun e w' => e = .returned (.int .i64 o) ∧ Turn [] w w') ∧ (o = 0 ∨ (o ≠ 0 ∧ q.id = o ∧ t ≠ 0)) := by
    by_cases ht : t = 0
    · subst ht
      exact ⟨0, of_zero _ _, .inl rfl⟩
    · refine ⟨_, of_calls h ht, ?_⟩
      rcases ofZ_mem (t := t) (S := A ++ q :: B) with e | ⟨r, hr, hrt, e⟩
      · exact .inl e
      · rw [e]
        refine .inr ⟨(h.num hr).2.1, ?_, ht⟩
        rcases mem_mid' hr with rfl | hr
        · rfl
        · rcases hfr with h0 | h0
          · exact absurd h0 ht
          · exact absurd hrt (h0 r hr)
  have O := Lib.hid hO
  have H := Lib.hid h
  have HT := Lib.hid hti
  have HFR := Lib.hid hfr
  have HNN : Hid (n ≤ 1000000) := Lib.hid (by omega)
  have C0 := Lib.hid (fun w1 (t1 : Turn [] w w1) => touch_raw (h.turn t1 (by simp)))
  obtain ⟨x, hxe⟩ : ∃ x, x = q.id := ⟨_, rfl⟩
  have HX := Lib.hid hxe
  rw [← hxe] at hx ho C0 ⊢
  clear hO h hti hfr hn hxe
  go_enter Tryz.func30, Tryz.ntmps30
  go_wp2_with fail
  refine O.out.mono ?_
  rintro e w1 ⟨rfl, t1⟩
  have T := Lib.hid t1
  have C := Lib.hid (C0.out _ t1)
  have H2 := Lib.hid (H.out.turn t1 (by simp))
  clear t1 O C0 H
  rcases ho with rfl | ⟨h0, rfl, ht0⟩
  · by_cases ht0 : t = 0
    · subst ht0
      go_wp2_with fail
      refine C.out.mono ?_
      rintro e w2 ⟨rfl, h5, t5⟩
      have F5 := Lib.hid h5
      have T5 := Lib.hid t5
      have c3 : w2.cell? ⟨b, 3, none⟩ = some (.map (some mb)) := by rw [cell_of_row _ _ _ _ _ _ (t5.heap H2.out.head H2.out.nb)]; rfl
      have PM := Lib.hid (H2.out.map.turn t5 H2.out.nmb)
      clear h5 t5 C
      go_wp2_with (at_delete; refine mp_delete rfl (.tmp 29) (.tmp 30) 76 _ rfl Tryz.underlying76 mb n tz _ rfl PM.out x rfl hx ?_; intro w4 h4 t4; have M4 := Lib.hid h4; have T4 := Lib.hid t4; clear h4 t4)
      have M5 := M4.out
      rw [HX.out] at M5
      have M6 := F5.out
      rw [HX.out] at M6
      have F := Lib.hid (H2.out.bound M6 T5.out T4.out HT.out (.inl rfl) M5)
      rw [← HX.out] at F
      clear M6
      clear M5
      go_ret
      exact ⟨_, rfl, Nat.le_succ _, F.out, ⟨fun k hk => .inl hk, fun k hk => hk, (T.out.mono (by simp)).trans ((T5.out.mono (fun i hi => .inl (by
        rcases List.mem_cons.1 hi with rfl | hi
        · exact H2.out.htb
        · exact H2.out.htv i (Option.mem_toList.1 hi)))).trans T4.out (fun i hi => .inl (by rw [List.mem_singleton.1 hi]; exact H2.out.hmb))) (fun i hi => .inl hi)⟩⟩
    · have ht1 : (t == 0) = false := by simpa using ht0
      go_wp2_with fail
      refine C.out.mono ?_
      rintro e w2 ⟨rfl, h5, t5⟩
      have F5 := Lib.hid h5
      have T5 := Lib.hid t5
      have c3 : w2.cell? ⟨b, 3, none⟩ = some (.map (some mb)) := by rw [cell_of_row _ _ _ _ _ _ (t5.heap H2.out.head H2.out.nb)]; rfl
      have PM := Lib.hid (H2.out.map.turn t5 H2.out.nmb)
      clear h5 t5 C
      go_wp2_with (at_mapUpdate; refine mp_update rfl (.tmp 34) (.tmp 35) (.tmp 36) 76 _ rfl Tryz.underlying76 mb n tz _ rfl PM.out HNN.out x (.int .i64 t) rfl rfl hx ?_; intro w4 h4 t4; have M4 := Lib.hid h4; have T4 := Lib.hid t4; clear h4 t4)
      have M5 := M4.out
      rw [HX.out] at M5
      have M6 := F5.out
      rw [HX.out] at M6
      have F := Lib.hid (H2.out.bound M6 T5.out T4.out HT.out HFR.out M5)
      rw [← HX.out] at F
      clear M6
      clear M5
      go_ret
      exact ⟨_, rfl, Nat.le_refl _, F.out, ⟨fun k hk => .inl hk, fun k hk => hk, (T.out.mono (by simp)).trans ((T5.out.mono (fun i hi => .inl (by
        rcases List.mem_cons.1 hi with rfl | hi
        · exact H2.out.htb
        · exact H2.out.htv i (Option.mem_toList.1 hi)))).trans T4.out (fun i hi => .inl (by rw [List.mem_singleton.1 hi]; exact H2.out.hmb))) (fun i hi => .inl hi)⟩⟩
  · have ht1 : (t == 0) = false := by simpa using ht0
    go_wp2_with fail
    refine C.out.mono ?_
    rintro e w2 ⟨rfl, h5, t5⟩
    have F5 := Lib.hid h5
    have T5 := Lib.hid t5
    have c3 : w2.cell? ⟨b, 3, none⟩ = some (.map (some mb)) := by rw [cell_of_row _ _ _ _ _ _ (t5.heap H2.out.head H2.out.nb)]; rfl
    have PM := Lib.hid (H2.out.map.turn t5 H2.out.nmb)
    clear h5 t5 C
    go_wp2_with (at_mapUpdate; refine mp_update rfl (.tmp 34) (.tmp 35) (.tmp 36) 76 _ rfl Tryz.underlying76 mb n tz _ rfl PM.out HNN.out x (.int .i64 t) rfl rfl hx ?_; intro w4 h4 t4; have M4 := Lib.hid h4; have T4 := Lib.hid t4; clear h4 t4)
    have M5 := M4.out
    rw [HX.out] at M5
    have M6 := F5.out
    rw [HX.out] at M6
    have F := Lib.hid (H2.out.bound M6 T5.out T4.out HT.out HFR.out M5)
    rw [← HX.out] at F
    clear M6
    clear M5
    go_ret
    exact ⟨_, rfl, Nat.le_refl _, F.out, ⟨fun k hk => .inl hk, fun k hk => hk, (T.out.mono (by simp)).trans ((T5.out.mono (fun i hi => .inl (by
      rcases List.mem_cons.1 hi with rfl | hi
      · exact H2.out.htb
      · exact H2.out.htv i (Option.mem_toList.1 hi)))).trans T4.out (fun i hi => .inl (by rw [List.mem_singleton.1 hi]; exact H2.out.hmb))) (fun i hi => .inl hi)⟩⟩

set_option maxHeartbeats 4000000 in
set_option maxRecDepth 100000 in
/-- New. -/
theorem new_calls (br : Int) (w : World) (hb : 1 ≤ br ∧ br ≤ 8) : Calls Tryz.prog 26 #[.int .i64 br] w fun e w' => ∃ b ow, e = .returned (.pointer (some ⟨b, 0, none⟩)) ∧ SesI w' ow b br 0 0 0 [] ∧ (∀ k ∈ ow, w.heap.size ≤ k) ∧ Turn [] w w' := by
  have hmm := @run_makeMap Tryz.prog
  have HB := Lib.hid hb
  clear hb
  go_enter Tryz.func26, Tryz.ntmps26
  go_wp2_with fail
  refine (L.new_calls 6 (by unfold inI64; omega) w).mono ?_
  rintro e w1 ⟨rfl, h1, t1⟩
  have H1 := Lib.hid h1
  have T1 := Lib.hid t1
  clear h1 t1
  go_wp2
  go_ret
  have tm := Turn.alloc [] w1 (.map #[] 0)
  have tb := Turn.alloc [] (w1.alloc (.map #[] 0)) (.cells #[.int .i64 br, .int .i64 0, .pointer (some ⟨w.heap.size, 0, none⟩), .map (some w1.heap.size)] 78)
  have hb := heap_alloc_new (w1.alloc (.map #[] 0)) (.cells #[.int .i64 br, .int .i64 0, .pointer (some ⟨w.heap.size, 0, none⟩), .map (some w1.heap.size)] 78)
  rw [show (w1.alloc (.map #[] 0)).heap.size = w1.heap.size + 1 by simp] at hb
  refine ⟨w1.heap.size + 1, [w1.heap.size + 1, w.heap.size, w1.heap.size], rfl, ⟨w.heap.size, w1.heap.size, 0, .slice none 0 0, Nat.le_refl _, ⟨hb, (H1.out.turn tm (by simp) (by simp)).turn tb (by simp) (by simp), (Mp.made w1 tz).turn tb (by simp), .nil, by simp, .nil, by simp, HB.out, by omega, by simp, by simp, by simp, by simp, (by intro k hk; cases hk)⟩⟩, ?_, (T1.out.trans tm (by simp)).trans tb (by simp)⟩
  have := T1.out.size
  intro k hk
  simp at hk
  omega

theorem open_nil (w : World) : Calls Tryz.prog 28 #[.pointer none] w fun e w' => e = .returned (.tuple #[.int .i64 0, .bool false]) ∧ Turn [] w w' := by
  go_enter Tryz.func28, Tryz.ntmps28
  go_wp2_with fail
  refine (heard_nil _).mono ?_
  rintro e w1 ⟨rfl, rfl⟩
  go_wp2_with fail
  refine (L.all_nil _).mono ?_
  rintro e w1 ⟨rfl, rfl⟩
  go_wp2_with fail
  refine (next_nil _).mono ?_
  rintro e w1 ⟨rfl, rfl⟩
  go_wp2
  go_ret2
  exact ⟨rfl, Turn.refl _ _⟩

theorem touch_nil (x : Int) (w : World) : Calls Tryz.prog 29 #[.pointer none, .int .i64 x] w fun e w' => e = .returned (.bool false) ∧ Turn [] w w' := by
  go_enter Tryz.func29, Tryz.ntmps29
  go_wp2_with fail
  refine (heard_nil _).mono ?_
  rintro e w1 ⟨rfl, rfl⟩
  go_wp2_with fail
  refine (L.has_nil x _).mono ?_
  rintro e w1 ⟨rfl, rfl⟩
  go_wp2
  go_ret
  exact ⟨rfl, Turn.refl _ _⟩

theorem close_nil (x : Int) (w : World) : Calls Tryz.prog 31 #[.pointer none, .int .i64 x] w fun e w' => e = .returned (.tuple #[.int .i64 0, .bool false]) ∧ Turn [] w w' := by
  go_enter Tryz.func31, Tryz.ntmps31
  go_wp2_with fail
  refine (tid_nil x _).mono ?_
  rintro e w1 ⟨rfl, rfl⟩
  go_wp2_with fail
  refine (heard_nil _).mono ?_
  rintro e w1 ⟨rfl, rfl⟩
  go_wp2_with fail
  refine (L.gone_nil x _).mono ?_
  rintro e w1 ⟨rfl, rfl⟩
  go_wp2
  go_ret2
  exact ⟨rfl, Turn.refl _ _⟩

theorem tick_nil (w : World) : Calls Tryz.prog 32 #[.pointer none] w fun e w' => ∃ ao c, e = .returned (.slice ao 0 c) ∧ Turn [] w w' := by
  go_enter Tryz.func32, Tryz.ntmps32
  go_wp2_with fail
  refine (heard_nil _).mono ?_
  rintro e w1 ⟨rfl, rfl⟩
  go_wp2_with fail
  refine (L.tick_nil _).mono ?_
  rintro e w1 ⟨rfl, rfl⟩
  go_wp2
  go_ret
  exact ⟨_, _, rfl, Turn.refl _ _⟩

theorem of_nil (x : Int) (w : World) : Calls Tryz.prog 34 #[.pointer none, .int .i64 x] w fun e w' => e = .returned (.int .i64 0) ∧ Turn [] w w' := by
  by_cases hx : x = 0
  · subst hx
    exact of_zero _ _
  · have hx' : (x == 0) = false := by simpa using hx
    go_enter Tryz.func34, Tryz.ntmps34
    go_wp2_with fail
    refine (heard_nil _).mono ?_
    rintro e w1 ⟨rfl, rfl⟩
    go_wp2_with fail
    refine (L.all_nil _).mono ?_
    rintro e w1 ⟨rfl, rfl⟩
    go_wp2_with fail
    go_loopw [6, 13] (fun _ vi wx => vi = .int .i64 0 ∧ wx = w1) (fun _ vi _ => 1 - (intOf vi).toNat)
    case atStart => exact ⟨rfl, rfl⟩
    case round =>
      obtain ⟨rfl, rfl⟩ := hrel
      go_wp2
      go_ret
      exact ⟨rfl, Turn.refl _ _⟩

theorem bind_nil (x t : Int) (w : World) : Calls Tryz.prog 30 #[.pointer none, .int .i64 x, .int .i64 t] w fun e w' => e = .returned (.bool false) ∧ Turn [] w w' := by
  have O := Lib.hid (of_nil t w)
  go_enter Tryz.func30, Tryz.ntmps30
  go_wp2_with fail
  refine O.out.mono ?_
  rintro e w1 ⟨rfl, t1⟩
  have T := Lib.hid t1
  clear t1 O
  go_wp2_with fail
  refine (touch_nil x _).mono ?_
  rintro e w2 ⟨rfl, t2⟩
  have T2 := Lib.hid (T.out.trans t2 (by simp))
  clear t2 T
  go_wp2
  go_ret
  exact ⟨rfl, T2.out⟩

end Go.Proofs.YtjmainefmiefcaaGreat.Ss


/-
  Sessions keep the contracts.
-/
namespace Go.Proofs.YtjmainefmiefcaaGreat.Ss
open Go.RowKit

theorem silS_map (t : Int) (S : List Sq) : L.silK 6 t (S.map sa) = i64s (silS t S) := by
  unfold L.silK silS i64s
  rw [List.filter_map, List.map_map, List.map_map]
  rfl

theorem sf_is : SF SesI where
  turn := fun h t hl => by
    obtain ⟨tb, mb, n, tv, hn, hk⟩ := h
    exact ⟨tb, mb, n, tv, hn, hk.turn t hl⟩
  tight := fun h => by
    obtain ⟨tb, mb, n, tv, hn, hk⟩ := h
    exact ⟨tb, mb, n, tv, hn, hk.tight⟩
  new := fun br w hb => new_calls br w hb
  open_ok := fun h hl hm hn => by
    obtain ⟨tb, mb, n, tv, hn, hk⟩ := h
    refine (open_ok hk hl hm).mono ?_
    rintro e w' ⟨tv', rfl, h2, s2⟩
    exact ⟨_, rfl, ⟨tb, mb, n, tv', by omega, h2⟩, s2⟩
  open_full := fun h hl hm hn => by
    obtain ⟨tb, mb, n, tv, hn, hk⟩ := h
    refine (open_full hk hl).mono ?_
    rintro e w' ⟨rfl, t⟩
    exact ⟨_, rfl, ⟨tb, mb, n, tv, by omega, hk.turn t (by simp)⟩, Stp.quiet t⟩
  touch_is := fun h hn => by
    obtain ⟨tb, mb, n, tv, hn, hk⟩ := h
    refine (touch_raw hk).mono ?_
    rintro e w' ⟨rfl, h2, t⟩
    refine ⟨_, rfl, ⟨tb, mb, n, tv, by omega, hk.touched h2 t⟩, Stp.of t (fun k hm => ?_) (fun k hm => .inl (hk.htv k hm))⟩
    rcases List.mem_cons.1 hm with rfl | hm
    · exact hk.htb
    · exact hk.htv k (Option.mem_toList.1 hm)
  touch_none := fun h hn hx hS => by
    obtain ⟨tb, mb, n, tv, hn, hk⟩ := h
    refine (touch_none hk hS).mono ?_
    rintro e w' ⟨rfl, t⟩
    exact ⟨_, rfl, ⟨tb, mb, n, tv, by omega, hk.turn t (by simp)⟩, Stp.quiet t⟩
  bind_is := fun h hn ht hf => by
    obtain ⟨tb, mb, n, tv, hn, hk⟩ := h
    refine (bind_is hk ht hf (by omega)).mono ?_
    rintro e w' ⟨n', rfl, hn', h2, s2⟩
    exact ⟨_, rfl, ⟨tb, mb, n', tv, by omega, h2⟩, s2⟩
  bind_other := fun h hn hx ht hc => by
    obtain ⟨tb, mb, n, tv, hn, hk⟩ := h
    rcases hc with hc | ⟨h0, q, hq, hqt, hqx⟩
    · refine (bind_none hk hc).mono ?_
      rintro e w' ⟨rfl, t⟩
      exact ⟨_, rfl, ⟨tb, mb, n, tv, by omega, hk.turn t (by simp)⟩, Stp.quiet t⟩
    · refine (bind_held hk h0 hq hqt hqx).mono ?_
      rintro e w' ⟨rfl, t⟩
      exact ⟨_, rfl, ⟨tb, mb, n, tv, by omega, hk.turn t (by simp)⟩, Stp.quiet t⟩
  tid_is := fun h hq => by
    obtain ⟨tb, mb, n, tv, hn, hk⟩ := h
    refine (tid_calls hk (hk.num hq).1).mono ?_
    rintro e w' ⟨rfl, rfl⟩
    exact ⟨by rw [tidAt_is hk.ris hq], Turn.refl _ _⟩
  tid_none := fun h hx hS => by
    obtain ⟨tb, mb, n, tv, hn, hk⟩ := h
    refine (tid_calls hk hx).mono ?_
    rintro e w' ⟨rfl, rfl⟩
    exact ⟨by rw [tidAt_none hS], Turn.refl _ _⟩
  of_is := fun h hq h0 => by
    obtain ⟨tb, mb, n, tv, hn, hk⟩ := h
    have := of_calls hk h0
    rwa [ofZ_is hk.one hq h0] at this
  of_none := fun {_ _ _ _ _ _ _ _ t} h ht hc => by
    obtain ⟨tb, mb, n, tv, hn, hk⟩ := h
    by_cases h0 : t = 0
    · subst h0
      exact of_zero _ _
    · have := of_calls hk h0
      rwa [ofZ_none (hc.resolve_left h0)] at this
  close_is := fun h hn => by
    obtain ⟨tb, mb, n, tv, hn, hk⟩ := h
    refine (close_is hk).mono ?_
    rintro e w' ⟨tv', rfl, h2, s2⟩
    exact ⟨_, rfl, ⟨tb, mb, n, tv', by omega, h2⟩, s2⟩
  close_none := fun h hn hx hS => by
    obtain ⟨tb, mb, n, tv, hn, hk⟩ := h
    refine (close_none hk hx hS).mono ?_
    rintro e w' ⟨rfl, t⟩
    exact ⟨_, rfl, ⟨tb, mb, n, tv, by omega, hk.turn t (by simp)⟩, Stp.quiet t⟩
  tick := fun {_ _ _ _ _ ticks _ S} h ht hn => by
    obtain ⟨tb, mb, n, tv, hn, hk⟩ := h
    refine (tick_calls hk (by omega)).mono ?_
    rintro e w' ⟨sv, rfl, hr, h2, s2⟩
    have hl : (L.silK 6 (ticks + 1) (S.map sa)).length = (silS (ticks + 1) S).length := by rw [silS_map]; simp [i64s]
    rw [hl, silS_map] at hr
    obtain ⟨ao, c, rfl⟩ := row_slice hr
    exact ⟨_, ao, c, rfl, hr, ⟨tb, mb, n, tv, by omega, h2⟩, s2⟩
  ris := fun h => by
    obtain ⟨tb, mb, n, tv, hn, hk⟩ := h
    exact ⟨hk.ris, hk.ids, fun q hq => hk.tim.nums (sa q) (List.mem_map_of_mem hq)⟩
  open_nil := open_nil
  touch_nil := fun x w _ => touch_nil x w
  bind_nil := fun x t w _ _ => bind_nil x t w
  tid_nil := fun x w _ => (tid_nil x w).mono (fun e w' h => ⟨h.1, by rw [h.2]; exact Turn.refl _ _⟩)
  of_nil := fun x w _ => of_nil x w
  close_nil := fun x w _ => close_nil x w
  tick_nil := tick_nil

end Go.Proofs.YtjmainefmiefcaaGreat.Ss


/-
  What rec's Encode lays: what records of a kind have, parts, puts, the whole.
-/
namespace Go.Proofs.YtjmainefmiefcaaGreat
open Go.RowKit

theorem Il.only {p : Addr} {w w' : World} {ao : Option Addr} {c : Nat} {l : List Int} (h : Il w ao c l) (ho : Only p w w') {v : Value} (hp : w.cell? p = some v) (hv : ∀ n, v ≠ .int .i64 n) : Il w' ao c l := by
  rcases h with h | ⟨A, hA, h1, h2, hc, hb⟩
  · exact .inl h
  · refine .inr ⟨A, hA, h1, h2, fun i hi => ?_, hb⟩
    have hu := hc i hi
    rw [ho.cell _ (World.block_lt_of_cell? _ _ hu) (by
      intro e
      rw [e, hp] at hu
      exact hv _ (Option.some.inj hu))]
    exact hu

theorem Ps.only {p : Addr} {w w' : World} {ao : Option Addr} {c : Nat} {l : List (ByteArray × ByteArray)} (h : Ps w ao c l) (ho : Only p w w') {v : Value} (hp : w.cell? p = some v) (hv : ∀ n, v ≠ .string n) : Ps w' ao c l := by
  rcases h with h | ⟨A, hA, h1, h2, hc⟩
  · exact .inl h
  · refine .inr ⟨A, hA, h1, h2, fun i hi => ?_⟩
    obtain ⟨c1, c2, c3⟩ := hc i hi
    refine ⟨?_, ?_, c3⟩
    · rw [ho.cell _ (World.block_lt_of_cell? _ _ c1) (by
        intro e
        rw [e, hp] at c1
        exact hv _ (Option.some.inj c1))]
      exact c1
    · rw [ho.cell _ (World.block_lt_of_cell? _ _ c2) (by
        intro e
        rw [e, hp] at c2
        exact hv _ (Option.some.inj c2))]
      exact c2

theorem OnlyN.trans {p : Addr} {a b c : World} (h : OnlyN p a b) (k : OnlyN p b c) : OnlyN p a c :=
  ⟨h.toOnly.trans k.toOnly, fun ao n c A h1 h2 => Nat.le_trans h.size (k.fresh ao n c A h1 h2)⟩

theorem OnlyN.turn {p : Addr} {a b : World} (h : OnlyN p a b) : Turn [p.block] a b :=
  ⟨h.os, h.tape, h.output, h.size, fun k hk hn => h.block k hk (by simpa using hn)⟩

/-- What records of a kind have. -/
structure HasV where
  id : Bool
  yes : Bool
  parts : Bool
  puts : Bool

def HasV.cells (o : HasV) : Array Value := #[.bool o.id, .bool o.yes, .bool o.parts, .bool o.puts]

def hasV (k : Int) : HasV := ⟨decide (k = 2), decide (k = 5), decide (k = 6 ∨ k = 8 ∨ k = 9), decide (k = 4 ∨ k = 7)⟩

theorem hassize : (Tryz.prog.info? 133).map (·.size) = some 4 := by kernel_rfl

set_option maxHeartbeats 2000000 in
set_option maxRecDepth 100000 in
theorem hasOf_calls (k : Int) (w : World) : Calls Tryz.prog 89 #[.int .i64 k] w fun e w' => e = .returned (.agg (hasV k).cells) ∧ Turn [] w w' := by
  have hk : k = 2 ∨ k = 4 ∨ k = 5 ∨ k = 6 ∨ k = 7 ∨ k = 8 ∨ k = 9 ∨ (k ≠ 2 ∧ k ≠ 4 ∧ k ≠ 5 ∧ k ≠ 6 ∧ k ≠ 7 ∧ k ≠ 8 ∧ k ≠ 9) := by omega
  rcases hk with rfl | rfl | rfl | rfl | rfl | rfl | rfl | hk
  rotate_left 7
  · have HO : Hid (hasV k = ⟨false, false, false, false⟩) := Lib.hid (by unfold hasV; rw [decide_eq_false (by omega), decide_eq_false (by omega), decide_eq_false (by omega), decide_eq_false (by omega)])
    rw [HO.out]
    have f2 : (k == 2) = false := by simp; omega
    have f4 : (k == 4) = false := by simp; omega
    have f5 : (k == 5) = false := by simp; omega
    have f6 : (k == 6) = false := by simp; omega
    have f7 : (k == 7) = false := by simp; omega
    have f8 : (k == 8) = false := by simp; omega
    have f9 : (k == 9) = false := by simp; omega
    clear hk HO
    go_enter Tryz.func89, Tryz.ntmps89
    go_wp2
    refine bodyPost_ret_by (results_cell_row rfl _ _ w.heap.size 133 _ (0, 0) _ rfl (heap_alloc_new w _) Tryz.underlying133 rfl hassize) rfl ?_
    exact ⟨rfl, Turn.alloc [] w _⟩
  all_goals
    go_enter Tryz.func89, Tryz.ntmps89
    go_wp2
    refine bodyPost_ret_by (results_cell_row rfl _ _ w.heap.size 133 _ (0, 0) _ rfl (heap_alloc_new w _) Tryz.underlying133 rfl hassize) rfl ?_
    exact ⟨rfl, Turn.alloc [] w _⟩

set_option maxHeartbeats 1000000 in
set_option maxRecDepth 100000 in
theorem layParts_calls (ob oo : Nat) (l : List UInt8) {w : World} {ap : Option Addr} {cp : Nat} {P : List Int} (ho : OutIs w ⟨ob, oo, none⟩ l) (hp : Il w ap cp P) (hb : l.length ≤ 1000000) (hn : P.length ≤ 100000) :
    Calls Tryz.prog 91 #[.pointer (some ⟨ob, oo, none⟩), .slice ap P.length cp] w fun e w' => e = .returned (.tuple #[]) ∧ OutIs w' ⟨ob, oo, none⟩ (l ++ (smallB P.length ++ partsBy P)) ∧ OnlyN ⟨ob, oo, none⟩ w w' := by
  have C1 := Lib.hid (small_out ob oo l P.length w ho (by omega))
  have HOUT := Lib.hid ho
  have HP := Lib.hid hp
  obtain ⟨n, hnn⟩ : ∃ n, n = P.length := ⟨_, rfl⟩
  have HN := Lib.hid hnn
  rw [← hnn] at C1 hn ⊢
  have HW : ∀ wx, OnlyN ⟨ob, oo, none⟩ w wx → Il wx ap cp P := fun wx t => by
    obtain ⟨a, c, h1, -⟩ := HOUT.out
    exact HP.out.only t.toOnly h1 (by intro n h; cases h)
  have HW := Lib.hid HW
  clear ho hp hnn
  go_enter Tryz.func91, Tryz.ntmps91
  go_wp2_with fail
  refine C1.out.mono ?_
  rintro e w1 ⟨rfl, o1, n1⟩
  have O1 := Lib.hid o1
  have N1 := Lib.hid n1
  clear o1 n1 C1
  go_wp2_with fail
  go_loopw [12] (fun vi wx => ∃ k : Nat, k ≤ n ∧ vi = .int .i64 (k : Int) ∧ OutIs wx ⟨ob, oo, none⟩ (l ++ (smallB n ++ partsBy (P.take k))) ∧ OnlyN ⟨ob, oo, none⟩ w wx) (fun vi _ => n - (intOf vi).toNat)
  case atStart => exact ⟨0, by omega, rfl, by simpa [partsBy] using O1.out, N1.out⟩
  case round =>
    obtain ⟨k, hk, rfl, hout, hon⟩ := hrel
    have HO := Lib.hid hout
    have HT := Lib.hid hon
    clear hout hon
    by_cases hkn : k < n
    · have hkl : k < P.length := by rw [← HN.out]; exact hkn
      obtain ⟨b, off, rfl, -, hat⟩ := (HW.out _ HT.out).at (by intro e; rw [e] at hkl; simp at hkl)
      have h0 := hat k hkl
      have hlen : (l ++ (smallB n ++ partsBy (P.take k))).length ≤ 140737488000000 := by
        rw [List.length_append, List.length_append, smallB_len, partsBy_len, List.length_take]
        omega
      have C := Lib.hid (small_out ob oo _ (P.getD k 0) wr HO.out hlen)
      have HX : Hid (l ++ (smallB n ++ partsBy (P.take k)) ++ smallB (P.getD k 0) = l ++ (smallB n ++ partsBy (P.take (k + 1)))) := Lib.hid (by rw [partsBy_next hkl]; simp only [List.append_assoc])
      rw [HX.out] at C
      have hb2 : 0 ≤ (k : Int) ∧ (k : Int) < (n : Int) := by omega
      clear hat hlen HX
      obtain ⟨y, hy⟩ : ∃ y, y = P.getD k 0 := ⟨_, rfl⟩
      rw [← hy] at h0 C
      clear hy
      go_wp2_with fail
      refine C.out.mono ?_
      rintro e w2 ⟨rfl, o2, n2⟩
      have O2 := Lib.hid o2
      have N2 := Lib.hid (HT.out.trans n2)
      clear o2 n2 C
      go_wp2
      go_roundw
      case rel => exact ⟨k + 1, by omega, by go_num, O2.out, N2.out⟩
      case measure => simp [intOf]; omega
    · have hkk : k = n := by omega
      have HF : Hid (P.take k = P) := Lib.hid (List.take_of_length_le (by rw [hkk, HN.out]; exact Nat.le_refl _))
      rw [HF.out] at HO
      clear HF hkk
      go_wp2
      go_end0
      exact ⟨rfl, HO.out, HT.out⟩

set_option maxHeartbeats 2000000 in
set_option maxRecDepth 100000 in
theorem layPuts_calls (ob oo : Nat) (l : List UInt8) {w : World} {aq : Option Addr} {cq : Nat} {Q : List (ByteArray × ByteArray)} (ho : OutIs w ⟨ob, oo, none⟩ l) (hq : Ps w aq cq Q) (hb : l.length ≤ 1000000) (hn : Q.length ≤ 1000)
    (hsz : ∀ i, i < Q.length → (Q.getD i putNone).1.size ≤ 1000000 ∧ (Q.getD i putNone).2.size ≤ 1000000) :
    Calls Tryz.prog 92 #[.pointer (some ⟨ob, oo, none⟩), .slice aq Q.length cq] w fun e w' => e = .returned (.tuple #[]) ∧ OutIs w' ⟨ob, oo, none⟩ (l ++ (smallB Q.length ++ putsBy Q)) ∧ OnlyN ⟨ob, oo, none⟩ w w' := by
  have C1 := Lib.hid (small_out ob oo l Q.length w ho (by omega))
  have HOUT := Lib.hid ho
  have HQ := Lib.hid hq
  have HSZ := Lib.hid hsz
  obtain ⟨n, hnn⟩ : ∃ n, n = Q.length := ⟨_, rfl⟩
  have HN := Lib.hid hnn
  rw [← hnn] at C1 hn ⊢
  have HW : ∀ wx, OnlyN ⟨ob, oo, none⟩ w wx → Ps wx aq cq Q := fun wx t => by
    obtain ⟨a, c, h1, -⟩ := HOUT.out
    exact HQ.out.only t.toOnly h1 (by intro n h; cases h)
  have HW := Lib.hid HW
  clear ho hq hnn hsz
  go_enter Tryz.func92, Tryz.ntmps92
  go_wp2_with fail
  refine C1.out.mono ?_
  rintro e w1 ⟨rfl, o1, n1⟩
  have O1 := Lib.hid o1
  have N1 := Lib.hid n1
  clear o1 n1 C1
  go_wp2_with fail
  go_loopw [12] (fun vi wx => ∃ k : Nat, k ≤ n ∧ vi = .int .i64 (k : Int) ∧ OutIs wx ⟨ob, oo, none⟩ (l ++ (smallB n ++ putsBy (Q.take k))) ∧ OnlyN ⟨ob, oo, none⟩ w wx) (fun vi _ => n - (intOf vi).toNat)
  case atStart => exact ⟨0, by omega, rfl, by simpa [putsBy] using O1.out, N1.out⟩
  case round =>
    obtain ⟨k, hk, rfl, hout, hon⟩ := hrel
    have HO := Lib.hid hout
    have HT := Lib.hid hon
    clear hout hon
    by_cases hkn : k < n
    · have hkl : k < Q.length := by rw [← HN.out]; exact hkn
      obtain ⟨b, off, rfl, -, hat⟩ := (HW.out _ HT.out).at (by intro e; rw [e] at hkl; simp at hkl)
      obtain ⟨h0, h1, -, -⟩ := hat k hkl
      obtain ⟨z0, z1⟩ := HSZ.out k hkl
      have hlen : (l ++ (smallB n ++ putsBy (Q.take k))).length ≤ 140737400000000 := by
        have := putsBy_len (Q.take k)
        rw [List.length_take] at this
        rw [List.length_append, List.length_append, smallB_len]
        omega
      obtain ⟨x, hx⟩ : ∃ x, x = (Q.getD k putNone).1 := ⟨_, rfl⟩
      obtain ⟨y, hy⟩ : ∃ y, y = (Q.getD k putNone).2 := ⟨_, rfl⟩
      rw [← hx] at h0 z0
      rw [← hy] at h1 z1
      have C := Lib.hid (text_out ob oo _ x (wr.alloc (.cells #[.string x, .string y] 28)) (HO.out.alloc (new_below _ _)) (by unfold maxLen; omega) (by omega))
      have C2 := Lib.hid (fun wx o => text_out ob oo (l ++ (smallB n ++ putsBy (Q.take k)) ++ textB x) y wx o (by unfold maxLen; omega) (by have := textB_len x; rw [List.length_append]; omega))
      have HX : Hid (l ++ (smallB n ++ putsBy (Q.take k)) ++ textB x ++ textB y = l ++ (smallB n ++ putsBy (Q.take (k + 1)))) := Lib.hid (by rw [putsBy_next hkl, hx, hy]; simp only [List.append_assoc])
      have hb2 : 0 ≤ (k : Int) ∧ (k : Int) < (n : Int) := by omega
      clear hat hlen z0 z1 hx hy
      go_wp2_with fail
      refine C.out.mono ?_
      rintro e w2 ⟨rfl, o2, n2⟩
      have O2 := Lib.hid o2
      have N2 := Lib.hid (HT.out.trans n2.after_alloc)
      have R2 := n2.turn.heap (heap_alloc_new wr (.cells #[.string x, .string y] 28)) (by
        obtain ⟨a, c, hc, -⟩ := HO.out
        have := World.block_lt_of_cell? _ _ hc
        simp at this ⊢
        omega)
      have k1 : w2.cell? ⟨wr.heap.size, 1, none⟩ = some (.string y) := by rw [cell_of_row _ _ _ _ _ _ R2]; rfl
      clear o2 n2 C R2
      go_wp2_with fail
      refine (C2.out _ O2.out).mono ?_
      rintro e w3 ⟨rfl, o3, n3⟩
      have O3 := Lib.hid o3
      have N3 := Lib.hid (N2.out.trans n3)
      rw [HX.out] at O3
      clear o3 n3 C2 HX k1 O2
      go_wp2
      go_roundw
      case rel => exact ⟨k + 1, by omega, by go_num, O3.out, N3.out⟩
      case measure => simp [intOf]; omega
    · have hkk : k = n := by omega
      have HF : Hid (Q.take k = Q) := Lib.hid (List.take_of_length_le (by rw [hkk, HN.out]; exact Nat.le_refl _))
      rw [HF.out] at HO
      clear HF hkk
      go_wp2
      go_end0
      exact ⟨rfl, HO.out, HT.out⟩

end Go.Proofs.YtjmainefmiefcaaGreat


/-
  The walk of rec's Encode.
-/
namespace Go.Proofs.YtjmainefmiefcaaGreat
open Go.RowKit

/-- In the midst of Encode: the record's box, the Out and what it has. -/
structure Em (w0 : World) (q p : Nat) (cs : Array Value) (l : List UInt8) (w : World) : Prop where
  box : w.heap[q]? = some (.cells cs 100)
  out : OutIs w ⟨p, 0, none⟩ l
  turn : Turn [] w0 w
  hqp : q ≠ p
  lo : w0.heap.size ≤ p
  new : ∀ ao n c A, w.cell? ⟨p, 0, none⟩ = some (.slice ao n c) → ao = some A → w0.heap.size ≤ A.block

theorem Em.step {w0 : World} {q p : Nat} {cs : Array Value} {l l' : List UInt8} {w w' : World} (h : Em w0 q p cs l w) (o : OutIs w' ⟨p, 0, none⟩ l') (n : OnlyN ⟨p, 0, none⟩ w w') : Em w0 q p cs l' w' :=
  ⟨n.turn.heap h.box (by simpa using h.hqp), o, h.turn.trans n.turn (fun i hi => .inr (by simp at hi; have := h.lo; omega)), h.hqp, h.lo, fun ao m c A h1 h2 => Nat.le_trans h.turn.size (n.fresh ao m c A h1 h2)⟩

theorem Em.still {w0 : World} {q p : Nat} {cs : Array Value} {l : List UInt8} {w w' : World} (h : Em w0 q p cs l w) (t : Turn [] w w') : Em w0 q p cs l w' :=
  ⟨t.heap h.box (by simp), h.out.alloc t.belowAll, h.turn.trans t (by simp), h.hqp, h.lo, fun ao n c A h1 h2 => by
    obtain ⟨a, k, h3, -⟩ := h.out
    have h4 := t.cell h3 (by simp)
    rw [h4] at h1
    injection h1 with h1
    injection h1 with e1 e2 e3
    exact h.new a _ k A h3 (e1.trans h2)⟩

theorem Em.ends {w0 : World} {q p : Nat} {cs : Array Value} {l : List UInt8} {w : World} (h : Em w0 q p cs l w) : ∃ ao c, w.cell? ⟨p, 0, none⟩ = some (.slice ao l.length c) ∧ w.ownsRow w0.heap.size 5 1 (.slice ao l.length c) l.length (u8s l) := by
  obtain ⟨ao, c, h1, h2, h3, h4⟩ := h.out
  refine ⟨ao, c, h1, ownsRow_base h4 (fun k hk => ?_)⟩
  rcases h4.2 with ⟨hv, -⟩ | ⟨g, cap, cur, hv, -⟩
  · rw [hv] at hk; cases hk
  · injection hv with e1 e2 e3
    have := h.new ao _ c ⟨g, 0, none⟩ h1 e1
    rw [e1] at hk
    injection hk with hk
    have hk : g = k := hk
    omega

theorem hasV_ways (r : RecV) : (hasV r.kind = ⟨true, false, false, false⟩ ∧ recTail r = longB r.id) ∨ (hasV r.kind = ⟨false, true, false, false⟩ ∧ recTail r = [if r.yes then 1 else 0])
    ∨ (hasV r.kind = ⟨false, false, true, false⟩ ∧ recTail r = smallB r.parts.length ++ partsBy r.parts) ∨ (hasV r.kind = ⟨false, false, false, true⟩ ∧ recTail r = smallB r.puts.length ++ putsBy r.puts)
    ∨ (hasV r.kind = ⟨false, false, false, false⟩ ∧ recTail r = []) := by
  unfold hasV recTail
  have hk : r.kind = 2 ∨ r.kind = 4 ∨ r.kind = 5 ∨ r.kind = 6 ∨ r.kind = 7 ∨ r.kind = 8 ∨ r.kind = 9 ∨ (r.kind ≠ 2 ∧ r.kind ≠ 4 ∧ r.kind ≠ 5 ∧ r.kind ≠ 6 ∧ r.kind ≠ 7 ∧ r.kind ≠ 8 ∧ r.kind ≠ 9) := by omega
  rcases hk with h | h | h | h | h | h | h | ⟨h2, h4, h5, h6, h7, h8, h9⟩
  · left; simp [h]
  · right; right; right; left; simp [h]
  · right; left; simp [h]
  · right; right; left; simp [h]
  · right; right; right; left; simp [h]
  · right; right; left; simp [h]
  · right; right; left; simp [h]
  · right; right; right; right; simp [h2, h4, h5, h6, h7, h8, h9]

set_option maxHeartbeats 4000000 in
set_option maxRecDepth 100000 in
theorem encode_calls (r : RecV) (w : World) (ap : Option Addr) (cp : Nat) (aq : Option Addr) (cq : Nat) (hp : Il w ap cp r.parts) (hq : Ps w aq cq r.puts) (hf : r.fit) :
    Calls Tryz.prog 66 #[.agg (r.cells ap cp aq cq)] w fun e w' => ∃ v, e = .returned v ∧ (recB r = true → w'.ownsRow w.heap.size 5 1 v (recBytes r).length (u8s (recBytes r))) ∧ (recB r = false → v = .slice none 0 0) ∧ Turn [] w w' := by
  have CK := Lib.hid (fun wx (tx : Turn [] w wx) => kindRecord_calls r (hp.turn tx) (hq.turn tx) hf.2.1 hf.2.2)
  cases hR : recB r with
  | false =>
    rw [hR] at CK
    obtain ⟨k, t, d, y, P, Q⟩ := r
    unfold RecV.cells at CK ⊢
    dsimp only at CK ⊢
    obtain ⟨np, hnp⟩ : ∃ n, n = P.length := ⟨_, rfl⟩
    obtain ⟨nq, hnq⟩ : ∃ n, n = Q.length := ⟨_, rfl⟩
    rw [← hnp, ← hnq] at CK ⊢
    clear hp hq hf hR hnp hnq
    go_enter Tryz.func66, Tryz.ntmps66
    go_wp2_with fail
    refine (CK.out _ (Turn.alloc [] w _)).mono ?_
    rintro e w2 ⟨rfl, t2⟩
    have T2 := Lib.hid ((Turn.alloc [] w _).trans t2 (by simp))
    clear t2 CK
    go_wp2
    go_ret
    exact ⟨_, rfl, by simp, fun _ => rfl, T2.out⟩
  | true =>
    have HS := recB_says hR
    have HW := hasV_ways r
    have CH := Lib.hid (fun w => hasOf_calls r.kind w)
    rw [hR] at CK
    have HB : Hid (recBytes r = smallB r.kind ++ longB r.tid ++ recTail r) := Lib.hid rfl
    have HP := Lib.hid hp
    have HQ := Lib.hid hq
    obtain ⟨L, hL⟩ : ∃ L, L = recBytes r := ⟨_, rfl⟩
    have HLL := Lib.hid hL
    rw [← hL] at HB ⊢
    obtain ⟨tl, htl⟩ : ∃ tl, tl = recTail r := ⟨_, rfl⟩
    rw [← htl] at HB HW
    obtain ⟨hv, hhv⟩ : ∃ hv, hv = hasV r.kind := ⟨_, rfl⟩
    rw [← hhv] at CH HW
    obtain ⟨k, t, d, y, P, Q⟩ := r
    dsimp only at HW HS HB CH HP HQ
    obtain ⟨-, -, -, -, -, -, -, -, hpn, -, hqn, hqs⟩ := HS
    have HSZ : Hid (∀ i, i < Q.length → (Q.getD i putNone).1.size ≤ 1000000 ∧ (Q.getD i putNone).2.size ≤ 1000000) := Lib.hid (fun i hi => by have := putB_sizes (hqs i hi); omega)
    have CP : Hid (∀ wx p l, Turn [] w wx → OutIs wx ⟨p, 0, none⟩ l → l.length ≤ 1000000 → Calls Tryz.prog 91 #[.pointer (some ⟨p, 0, none⟩), .slice ap P.length cp] wx fun e w' => e = .returned (.tuple #[]) ∧ OutIs w' ⟨p, 0, none⟩ (l ++ (smallB P.length ++ partsBy P)) ∧ OnlyN ⟨p, 0, none⟩ wx w') :=
      Lib.hid (fun wx p l tx o h => layParts_calls p 0 l o (HP.out.turn tx) h (by omega))
    have CQ : Hid (∀ wx p l, Turn [] w wx → OutIs wx ⟨p, 0, none⟩ l → l.length ≤ 1000000 → Calls Tryz.prog 92 #[.pointer (some ⟨p, 0, none⟩), .slice aq Q.length cq] wx fun e w' => e = .returned (.tuple #[]) ∧ OutIs w' ⟨p, 0, none⟩ (l ++ (smallB Q.length ++ putsBy Q)) ∧ OnlyN ⟨p, 0, none⟩ wx w') :=
      Lib.hid (fun wx p l tx o h => layPuts_calls p 0 l o (HQ.out.turn tx) h (by omega) HSZ.out)
    unfold RecV.cells at CK ⊢
    dsimp only at CK ⊢
    obtain ⟨zp, hzp⟩ : ∃ z, z = smallB P.length ++ partsBy P := ⟨_, rfl⟩
    obtain ⟨zq, hzq⟩ : ∃ z, z = smallB Q.length ++ putsBy Q := ⟨_, rfl⟩
    rw [← hzp] at HW CP
    rw [← hzq] at HW CQ
    obtain ⟨np, hnp⟩ : ∃ n, n = P.length := ⟨_, rfl⟩
    obtain ⟨nq, hnq⟩ : ∃ n, n = Q.length := ⟨_, rfl⟩
    rw [← hnp, ← hnq] at CK ⊢
    rw [← hnp] at CP
    rw [← hnq] at CQ
    clear hp hq hf hR hnp hnq hL htl hhv hpn hqn hqs hzp hzq HSZ HP HQ HLL
    obtain ⟨cs, hcs⟩ : ∃ cs : Array Value, cs = #[.int .i64 k, .int .i64 t, .int .i64 d, .bool y, .slice ap np cp, .slice aq nq cq] := ⟨_, rfl⟩
    have HC := Lib.hid hcs
    clear hcs
    go_enter Tryz.func66, Tryz.ntmps66
    go_wp2_with fail
    refine (CK.out _ (Turn.alloc [] w _)).mono ?_
    rintro e w2 ⟨rfl, t2⟩
    have T2 := Lib.hid ((Turn.alloc [] w _).trans t2 (by simp))
    have b2 := t2.heap (heap_alloc_new w _) (by simp)
    rw [← HC.out] at b2
    have e2 : Hid (∀ o, Em w w.heap.size w2.heap.size cs [] (w2.alloc (.cells #[.slice none 0 0] o))) := Lib.hid (fun o =>
      ⟨(Turn.alloc [] w2 _).heap b2 (by simp), OutIs.new w2 o, T2.out.trans (Turn.alloc [] w2 _) (by simp), by have := lt_of_heap b2; omega, T2.out.size, fun ao n c A h1 h2 => by
        rw [World.cell?_alloc_at (hn := rfl)] at h1
        injection h1 with h1
        injection h1 with f1 f2 f3
        rw [← f1] at h2
        cases h2⟩)
    have x0 : ∀ o, (w2.alloc o).cell? ⟨w.heap.size, 0, none⟩ = some (.int .i64 k) := fun o => by rw [cell_of_row _ _ _ _ _ _ ((Turn.alloc [] w2 _).heap b2 (by simp)), HC.out]; rfl
    clear t2 CK b2
    go_wp2_with fail
    refine (small_out w2.heap.size 0 [] k _ (e2.out _).out (by simp)).mono ?_
    rintro e w3 ⟨rfl, o3, n3⟩
    have E3 := Lib.hid ((e2.out _).step o3 n3)
    have x1 : w3.cell? ⟨w.heap.size, 1, none⟩ = some (.int .i64 t) := by rw [cell_of_row _ _ _ _ _ _ E3.out.box, HC.out]; rfl
    clear o3 n3 x0 e2
    go_wp2_with fail
    refine (long_out w2.heap.size 0 _ t _ E3.out.out (by simp [smallB_len])).mono ?_
    rintro e w4 ⟨rfl, o4, n4⟩
    have E4 := Lib.hid (E3.out.step o4 n4)
    have x0 : w4.cell? ⟨w.heap.size, 0, none⟩ = some (.int .i64 k) := by rw [cell_of_row _ _ _ _ _ _ E4.out.box, HC.out]; rfl
    clear o4 n4 x1 E3
    go_wp2_with fail
    refine (CH.out _).mono ?_
    rintro e w5 ⟨rfl, t5⟩
    have E5 := Lib.hid (E4.out.still t5)
    obtain ⟨l5, hl5⟩ : ∃ l5, l5 = [] ++ smallB k ++ longB t := ⟨_, rfl⟩
    have h5 : l5.length ≤ 1000000 := by rw [hl5]; simp [smallB_len, longB_len]
    rw [← hl5] at E5
    rw [List.nil_append] at hl5
    rw [← hl5] at HB
    have E6 : Hid (∀ o, Em w w.heap.size w2.heap.size cs l5 (w5.alloc o)) := Lib.hid (fun o => E5.out.still (Turn.alloc [] w5 o))
    clear t5 x0 E4 CH hl5
    have HLT : Hid (w5.heap.size ≠ w2.heap.size) := Lib.hid (by
      obtain ⟨a, c, hc, -⟩ := E5.out.out
      have : w2.heap.size < w5.heap.size := World.block_lt_of_cell? _ _ hc
      omega)
    rcases HW with ⟨rfl, rfl⟩ | ⟨rfl, rfl⟩ | ⟨rfl, rfl⟩ | ⟨rfl, rfl⟩ | ⟨rfl, rfl⟩
    · unfold HasV.cells
      have x2 : ∀ o, (w5.alloc o).cell? ⟨w.heap.size, 2, none⟩ = some (.int .i64 d) := fun o => by rw [cell_of_row _ _ _ _ _ _ (E6.out o).box, HC.out]; rfl
      go_wp2_with fail
      refine (long_out w2.heap.size 0 _ d _ (E6.out _).out (by omega)).mono ?_
      rintro e w7 ⟨rfl, o7, n7⟩
      have E7 := Lib.hid ((E6.out _).step o7 n7)
      have R7 := n7.turn.heap (heap_alloc_new w5 _) (by simpa using HLT.out)
      have g1 : w7.cell? ⟨w5.heap.size, 1, none⟩ = some (.bool false) := by rw [cell_of_row _ _ _ _ _ _ R7]; rfl
      have g2 : w7.cell? ⟨w5.heap.size, 2, none⟩ = some (.bool false) := by rw [cell_of_row _ _ _ _ _ _ R7]; rfl
      have g3 : w7.cell? ⟨w5.heap.size, 3, none⟩ = some (.bool false) := by rw [cell_of_row _ _ _ _ _ _ R7]; rfl
      rw [← HB.out] at E7
      obtain ⟨ao, c, hc, hw⟩ := E7.out.ends
      have HWW := Lib.hid hw
      clear o7 n7 x2 R7 hw
      go_wp2
      go_ret
      exact ⟨_, rfl, fun _ => HWW.out, by simp, E7.out.turn⟩
    · unfold HasV.cells
      have x2 : ∀ o, (w5.alloc o).cell? ⟨w.heap.size, 3, none⟩ = some (.bool y) := fun o => by rw [cell_of_row _ _ _ _ _ _ (E6.out o).box, HC.out]; rfl
      go_wp2_with fail
      refine (truth_out w2.heap.size 0 _ y _ (E6.out _).out (by omega)).mono ?_
      rintro e w7 ⟨rfl, o7, n7⟩
      have E7 := Lib.hid ((E6.out _).step o7 n7)
      have R7 := n7.turn.heap (heap_alloc_new w5 _) (by simpa using HLT.out)
      have g2 : w7.cell? ⟨w5.heap.size, 2, none⟩ = some (.bool false) := by rw [cell_of_row _ _ _ _ _ _ R7]; rfl
      have g3 : w7.cell? ⟨w5.heap.size, 3, none⟩ = some (.bool false) := by rw [cell_of_row _ _ _ _ _ _ R7]; rfl
      rw [← HB.out] at E7
      obtain ⟨ao, c, hc, hw⟩ := E7.out.ends
      have HWW := Lib.hid hw
      clear o7 n7 x2 R7 hw
      go_wp2
      go_ret
      exact ⟨_, rfl, fun _ => HWW.out, by simp, E7.out.turn⟩
    · unfold HasV.cells
      have x2 : ∀ o, (w5.alloc o).cell? ⟨w.heap.size, 4, none⟩ = some (.slice ap np cp) := fun o => by rw [cell_of_row _ _ _ _ _ _ (E6.out o).box, HC.out]; rfl
      go_wp2_with fail
      refine (CP.out _ w2.heap.size l5 (E6.out _).turn (E6.out _).out h5).mono ?_
      rintro e w7 ⟨rfl, o7, n7⟩
      have E7 := Lib.hid ((E6.out _).step o7 n7)
      have R7 := n7.turn.heap (heap_alloc_new w5 _) (by simpa using HLT.out)
      have g3 : w7.cell? ⟨w5.heap.size, 3, none⟩ = some (.bool false) := by rw [cell_of_row _ _ _ _ _ _ R7]; rfl
      rw [← HB.out] at E7
      obtain ⟨ao, c, hc, hw⟩ := E7.out.ends
      have HWW := Lib.hid hw
      clear o7 n7 x2 R7 hw
      go_wp2
      go_ret
      exact ⟨_, rfl, fun _ => HWW.out, by simp, E7.out.turn⟩
    · unfold HasV.cells
      have x2 : ∀ o, (w5.alloc o).cell? ⟨w.heap.size, 5, none⟩ = some (.slice aq nq cq) := fun o => by rw [cell_of_row _ _ _ _ _ _ (E6.out o).box, HC.out]; rfl
      go_wp2_with fail
      refine (CQ.out _ w2.heap.size l5 (E6.out _).turn (E6.out _).out h5).mono ?_
      rintro e w7 ⟨rfl, o7, n7⟩
      have E7 := Lib.hid ((E6.out _).step o7 n7)
      rw [← HB.out] at E7
      obtain ⟨ao, c, hc, hw⟩ := E7.out.ends
      have HWW := Lib.hid hw
      clear o7 n7 x2 hw
      go_wp2
      go_ret
      exact ⟨_, rfl, fun _ => HWW.out, by simp, E7.out.turn⟩
    · unfold HasV.cells
      rw [List.append_nil] at HB
      rw [← HB.out] at E6
      obtain ⟨ao, c, hc, hw⟩ := (E6.out (.cells #[.bool false, .bool false, .bool false, .bool false] 133)).ends
      have HWW := Lib.hid hw
      clear hw
      go_wp2
      go_ret
      exact ⟨_, rfl, fun _ => HWW.out, by simp, (E6.out _).turn⟩

end Go.Proofs.YtjmainefmiefcaaGreat


/-
  What bytes say of a record: as lists, without a world; what is read whole are just its bytes.
-/
namespace Go.Proofs.YtjmainefmiefcaaGreat
open Go.RowKit

theorem u8_is {n : Nat} {a : UInt8} (h : n = a.toNat) : UInt8.ofNat n = a := by rw [h]; exact UInt8.ofNat_toNat

theorem split_two {l : List UInt8} (h : l.length = 2) : ∃ a b, l = [a, b] := by
  match l, h with
  | [a, b], _ => exact ⟨a, b, rfl⟩

theorem small_le {l : List UInt8} (h : l.length = 2) : smallB (leN l : Nat) = l ∧ leN l < 65536 := by
  obtain ⟨a, b, rfl⟩ := split_two h
  have ha := a.toNat_lt
  have hb := b.toNat_lt
  unfold smallB
  simp only [leN]
  refine ⟨?_, by omega⟩
  rw [u8_is (a := a) (by omega), u8_is (a := b) (by omega)]

theorem wrap_digit {n v : Int} (h : n = v ∨ n = v - 18446744073709551616) : n % 256 = v % 256 ∧ n / 256 % 256 = v / 256 % 256 ∧ n / 65536 % 256 = v / 65536 % 256 ∧ n / 16777216 % 256 = v / 16777216 % 256 ∧ n / 4294967296 % 256 = v / 4294967296 % 256 ∧ n / 1099511627776 % 256 = v / 1099511627776 % 256 ∧ n / 281474976710656 % 256 = v / 281474976710656 % 256 ∧ n / 72057594037927936 % 256 = v / 72057594037927936 % 256 := by
  rcases h with rfl | rfl
  · exact ⟨rfl, rfl, rfl, rfl, rfl, rfl, rfl, rfl⟩
  · refine ⟨?_, ?_, ?_, ?_, ?_, ?_, ?_, ?_⟩ <;> omega

theorem digit {v a r : Nat} (h : v = a + 256 * r) (ha : a < 256) : v % 256 = a ∧ v / 256 = r := by omega

theorem digits (a0 a1 a2 a3 a4 a5 a6 a7 : Nat) (h0 : a0 < 256) (h1 : a1 < 256) (h2 : a2 < 256) (h3 : a3 < 256) (h4 : a4 < 256) (h5 : a5 < 256) (h6 : a6 < 256) (h7 : a7 < 256) (v : Nat)
    (h : v = a0 + 256 * (a1 + 256 * (a2 + 256 * (a3 + 256 * (a4 + 256 * (a5 + 256 * (a6 + 256 * a7))))))) :
    v % 256 = a0 ∧ v / 256 % 256 = a1 ∧ v / 65536 % 256 = a2 ∧ v / 16777216 % 256 = a3 ∧ v / 4294967296 % 256 = a4 ∧ v / 1099511627776 % 256 = a5 ∧ v / 281474976710656 % 256 = a6 ∧ v / 72057594037927936 % 256 = a7 := by
  obtain ⟨e0, d1⟩ := digit h h0
  obtain ⟨e1, d2⟩ := digit d1 h1
  obtain ⟨e2, d3⟩ := digit d2 h2
  obtain ⟨e3, d4⟩ := digit d3 h3
  obtain ⟨e4, d5⟩ := digit d4 h4
  obtain ⟨e5, d6⟩ := digit d5 h5
  obtain ⟨e6, d7⟩ := digit d6 h6
  rw [Nat.div_div_eq_div_mul] at d2 d3 d4 d5 d6 d7 e2 e3 e4 e5 e6
  repeat rw [Nat.div_div_eq_div_mul] at d3 e3
  repeat rw [Nat.div_div_eq_div_mul] at d4 e4
  repeat rw [Nat.div_div_eq_div_mul] at d5 e5
  repeat rw [Nat.div_div_eq_div_mul] at d6 e6
  repeat rw [Nat.div_div_eq_div_mul] at d7
  refine ⟨e0, e1, e2, e3, e4, e5, e6, ?_⟩
  have : v / 72057594037927936 = a7 := d7
  omega

theorem long_le {l : List UInt8} (h : l.length = 8) : longB (longN l) = l ∧ okI (longN l) := by
  match l, h with
  | [a0, a1, a2, a3, a4, a5, a6, a7], _ =>
    obtain ⟨v, hv⟩ : ∃ v : Nat, v = leN [a0, a1, a2, a3, a4, a5, a6, a7] := ⟨_, rfl⟩
    have hv2 : v = a0.toNat + 256 * (a1.toNat + 256 * (a2.toNat + 256 * (a3.toNat + 256 * (a4.toNat + 256 * (a5.toNat + 256 * (a6.toNat + 256 * a7.toNat)))))) := by
      rw [hv]; simp only [leN, Nat.mul_zero, Nat.add_zero]
    have hlt : v < 256 ^ 8 := by rw [hv]; exact leN_lt _
    obtain ⟨e0, e1, e2, e3, e4, e5, e6, e7⟩ := digits _ _ _ _ _ _ _ _ a0.toNat_lt a1.toNat_lt a2.toNat_lt a3.toNat_lt a4.toNat_lt a5.toNat_lt a6.toNat_lt a7.toNat_lt v hv2
    unfold longN
    rw [← hv]
    clear hv hv2
    have hw : wrap64 (v : Int) = v ∨ wrap64 (v : Int) = (v : Int) - 18446744073709551616 := by
      rw [wrap_i64_u64 v (by omega)]
      split
      · exact .inl rfl
      · exact .inr rfl
    have ho : okI (wrap64 (v : Int)) := by unfold okI wrap64; omega
    generalize wrap64 (v : Int) = n at *
    obtain ⟨d0, d1, d2, d3, d4, d5, d6, d7⟩ := wrap_digit hw
    refine ⟨?_, ho⟩
    unfold longB
    rw [d0, d1, d2, d3, d4, d5, d6, d7]
    clear d0 d1 d2 d3 d4 d5 d6 d7 hw ho hlt
    have c : ∀ x k : Nat, (((v : Int) / (k : Int)) % 256).toNat = x ↔ v / k % 256 = x := fun x k => by
      have : ((v : Int) / (k : Int)) % 256 = ((v / k % 256 : Nat) : Int) := by simp
      rw [this, Int.toNat_natCast]
    have f0 : ((v : Int) % 256).toNat = a0.toNat := by rw [← e0]; omega
    have f1 : ((v : Int) / 256 % 256).toNat = a1.toNat := (c _ 256).2 e1
    have f2 : ((v : Int) / 65536 % 256).toNat = a2.toNat := (c _ 65536).2 e2
    have f3 : ((v : Int) / 16777216 % 256).toNat = a3.toNat := (c _ 16777216).2 e3
    have f4 : ((v : Int) / 4294967296 % 256).toNat = a4.toNat := (c _ 4294967296).2 e4
    have f5 : ((v : Int) / 1099511627776 % 256).toNat = a5.toNat := (c _ 1099511627776).2 e5
    have f6 : ((v : Int) / 281474976710656 % 256).toNat = a6.toNat := (c _ 281474976710656).2 e6
    have f7 : ((v : Int) / 72057594037927936 % 256).toNat = a7.toNat := (c _ 72057594037927936).2 e7
    rw [f0, f1, f2, f3, f4, f5, f6, f7]
    simp only [UInt8.ofNat_toNat]

theorem take_sound {l : List UInt8} {bad : Bool} {n : Nat} (h : canTake l bad n = true) : bad = false ∧ l = taken l bad n ++ after l bad n ∧ (taken l bad n).length = n := by
  unfold taken after
  rw [if_pos h, if_pos h]
  unfold canTake at h
  simp at h
  exact ⟨h.1, (List.take_append_drop n l).symm, by rw [List.length_take]; omega⟩

theorem small_sound {l : List UInt8} {bad : Bool} (h : canTake l bad 2 = true) : bad = false ∧ l = smallB (leN (taken l bad 2) : Nat) ++ after l bad 2 ∧ leN (taken l bad 2) < 65536 := by
  obtain ⟨h1, h2, h3⟩ := take_sound h
  obtain ⟨h4, h5⟩ := small_le h3
  exact ⟨h1, by rw [h4]; exact h2, h5⟩

theorem long_sound {l : List UInt8} {bad : Bool} (h : canTake l bad 8 = true) : bad = false ∧ l = longB (longN (taken l bad 8)) ++ after l bad 8 := by
  obtain ⟨h1, h2, h3⟩ := take_sound h
  obtain ⟨h4, h5⟩ := long_le h3
  exact ⟨h1, by rw [h4]; exact h2⟩

theorem long_ok (l : List UInt8) (bad : Bool) : okI (longN (taken l bad 8)) := by
  unfold longN wrap64 okI
  omega

theorem small_lt (l : List UInt8) (bad : Bool) : leN (taken l bad 2) < 65536 := leN_lt' (n := 2) (taken_len l bad 2)

theorem text_sound {l : List UInt8} {bad : Bool} (h : textC l bad = true) : bad = false ∧ l = textB ⟨(textT l bad).toArray⟩ ++ textA l bad := by
  unfold textC at h
  obtain ⟨h1, h2, h3⟩ := take_sound h
  have h1 : canTake l bad 2 = true := by simpa using h1
  obtain ⟨h4, h5, h6⟩ := small_sound h1
  have hs : (⟨(textT l bad).toArray⟩ : ByteArray).size = leN (taken l bad 2) := by
    rw [size_mk]
    exact h3
  refine ⟨h4, ?_⟩
  rw [textB_low _ (by rw [hs]; exact h6), hs]
  unfold textT textA
  rw [List.append_assoc, show (⟨(taken (after l bad 2) (!canTake l bad 2) (leN (taken l bad 2))).toArray⟩ : ByteArray).data.toList = taken (after l bad 2) (!canTake l bad 2) (leN (taken l bad 2)) from rfl, ← h2]
  exact h5

theorem text_size (l : List UInt8) (bad : Bool) : (⟨(textT l bad).toArray⟩ : ByteArray).size < 65536 := by
  rw [size_mk]
  unfold textT
  have := taken_len (after l bad 2) (!canTake l bad 2) (leN (taken l bad 2))
  have := small_lt l bad
  omega

theorem truth_sound {l : List UInt8} {bad : Bool} (h : truthC l bad = true) : bad = false ∧ l = [if truthV l bad then (1 : UInt8) else 0] ++ truthA l bad := by
  unfold truthC at h
  simp only [Bool.and_eq_true, decide_eq_true_eq] at h
  obtain ⟨h0, hle⟩ := h
  obtain ⟨h1, h2, h3⟩ := take_sound h0
  refine ⟨h1, ?_⟩
  unfold truthV truthA
  rw [if_pos hle]
  generalize taken l bad 1 = x at *
  match x, h3 with
  | [a], _ =>
    have hl : leN [a] = a.toNat := by simp [leN]
    rw [hl] at hle
    have e : (if (leN [a] == 1) = true then (1 : UInt8) else 0) = a := by
      rw [hl]
      rcases (by omega : a.toNat = 0 ∨ a.toNat = 1) with h | h
      · rw [h, if_neg (by simp)]
        exact UInt8.toNat_inj.1 (by rw [h]; rfl)
      · rw [h, if_pos (by simp)]
        exact UInt8.toNat_inj.1 (by rw [h]; rfl)
    rw [e]
    exact h2

theorem take_full (a r : List UInt8) {n : Nat} (h : a.length = n) : taken (a ++ r) false n = a ∧ after (a ++ r) false n = r ∧ canTake (a ++ r) false n = true := taken_front a r n h

theorem small_full {n : Int} (h : 0 ≤ n ∧ n < 65536) (r : List UInt8) : ((leN (taken (smallB n ++ r) false 2) : Nat) : Int) = n ∧ after (smallB n ++ r) false 2 = r ∧ canTake (smallB n ++ r) false 2 = true := by
  obtain ⟨h1, h2, h3⟩ := take_full (smallB n) r (smallB_len n)
  refine ⟨?_, h2, h3⟩
  rw [h1, leN_small]
  omega

theorem long_full {n : Int} (h : -9223372036854775808 ≤ n ∧ n ≤ 9223372036854775807) (r : List UInt8) : longN (taken (longB n ++ r) false 8) = n ∧ after (longB n ++ r) false 8 = r ∧ canTake (longB n ++ r) false 8 = true := by
  obtain ⟨h1, h2, h3⟩ := take_full (longB n) r (longB_len n)
  exact ⟨by rw [h1, longN_long n h], h2, h3⟩

theorem text_full {x : ByteArray} (h : x.size < 65536) (r : List UInt8) : (⟨(textT (textB x ++ r) false).toArray⟩ : ByteArray) = x ∧ textA (textB x ++ r) false = r ∧ textC (textB x ++ r) false = true := by
  rw [textB_low x h, List.append_assoc]
  obtain ⟨h1, h2, h3⟩ := small_full (n := (x.size : Nat)) (by omega) (x.data.toList ++ r)
  have h1 : leN (taken (smallB (x.size : Nat) ++ (x.data.toList ++ r)) false 2) = x.size := by omega
  obtain ⟨k1, k2, k3⟩ := take_full x.data.toList r (n := x.size) (by simp)
  unfold textT textA textC
  rw [h1, h2, h3]
  simp only [Bool.not_true]
  rw [k1, k2, k3]
  exact ⟨rfl, rfl, rfl⟩

theorem truth_full (y : Bool) (r : List UInt8) : truthV ([if y then (1 : UInt8) else 0] ++ r) false = y ∧ truthA ([if y then (1 : UInt8) else 0] ++ r) false = r ∧ truthC ([if y then (1 : UInt8) else 0] ++ r) false = true := by
  obtain ⟨h1, h2, h3⟩ := take_full [if y then (1 : UInt8) else 0] r (n := 1) rfl
  unfold truthV truthA truthC
  rw [h1, h2, h3]
  cases y
  · exact ⟨rfl, rfl, rfl⟩
  · exact ⟨rfl, rfl, rfl⟩

/-- So many numbers; they end where it is bad. -/
def rdParts : Nat → List UInt8 → Bool → List Int × List UInt8 × Bool
  | 0, l, bad => ([], l, bad)
  | n + 1, l, bad => if bad = true then ([], l, bad) else ((leN (taken l bad 2) : Nat) :: (rdParts n (after l bad 2) (!canTake l bad 2)).1, (rdParts n (after l bad 2) (!canTake l bad 2)).2)

/-- So many puts. -/
def rdPuts : Nat → List UInt8 → Bool → List (ByteArray × ByteArray) × List UInt8 × Bool
  | 0, l, bad => ([], l, bad)
  | n + 1, l, bad => if bad = true then ([], l, bad) else
    ((⟨(textT l bad).toArray⟩, ⟨(textT (textA l bad) (!textC l bad)).toArray⟩) :: (rdPuts n (textA (textA l bad) (!textC l bad)) (!textC (textA l bad) (!textC l bad))).1, (rdPuts n (textA (textA l bad) (!textC l bad)) (!textC (textA l bad) (!textC l bad))).2)

theorem rdParts_sound : ∀ (n : Nat) (l : List UInt8) (bad : Bool), (rdParts n l bad).2.2 = false → bad = false ∧ (rdParts n l bad).1.length = n ∧ l = partsBy (rdParts n l bad).1 ++ (rdParts n l bad).2.1
  | 0, l, bad, h => ⟨h, rfl, rfl⟩
  | n + 1, l, bad, h => by
    unfold rdParts at h ⊢
    cases bad with
    | true => simp at h
    | false =>
      rw [if_neg (by simp)] at h ⊢
      obtain ⟨h1, h2, h3⟩ := rdParts_sound n _ _ h
      have h1 : canTake l false 2 = true := by simpa using h1
      obtain ⟨-, h5, -⟩ := small_sound h1
      refine ⟨rfl, by simp [h2], ?_⟩
      show l = (smallB _ ++ partsBy _) ++ _
      rw [List.append_assoc]
      rw [← h3]
      exact h5

theorem rdPuts_sound : ∀ (n : Nat) (l : List UInt8) (bad : Bool), (rdPuts n l bad).2.2 = false → bad = false ∧ (rdPuts n l bad).1.length = n ∧ l = putsBy (rdPuts n l bad).1 ++ (rdPuts n l bad).2.1
  | 0, l, bad, h => ⟨h, rfl, rfl⟩
  | n + 1, l, bad, h => by
    unfold rdPuts at h ⊢
    cases bad with
    | true => simp at h
    | false =>
      rw [if_neg (by simp)] at h ⊢
      obtain ⟨h1, h2, h3⟩ := rdPuts_sound n _ _ h
      have h1 : textC (textA l false) (!textC l false) = true := by simpa using h1
      obtain ⟨h4, h5⟩ := text_sound h1
      have h4 : textC l false = true := by simpa using h4
      obtain ⟨-, h6⟩ := text_sound h4
      refine ⟨rfl, by simp [h2], ?_⟩
      show l = ((textB _ ++ textB _) ++ putsBy _) ++ _
      rw [List.append_assoc, List.append_assoc]
      rw [← h3, ← h5]
      exact h6

theorem rdParts_full : ∀ (P : List Int) (r : List UInt8), (∀ i, i < P.length → 0 ≤ P.getD i 0 ∧ P.getD i 0 < 65536) → rdParts P.length (partsBy P ++ r) false = (P, r, false)
  | [], r, _ => rfl
  | x :: P, r, h => by
    have hx : 0 ≤ x ∧ x < 65536 := h 0 (by simp)
    obtain ⟨h1, h2, h3⟩ := small_full hx (partsBy P ++ r)
    have ih := rdParts_full P r (fun i hi => h (i + 1) (by simpa using hi))
    show rdParts (P.length + 1) ((smallB x ++ partsBy P) ++ r) false = _
    rw [List.append_assoc]
    unfold rdParts
    rw [if_neg (by simp), h1, h2, h3, Bool.not_true, ih]

theorem rdPuts_full : ∀ (Q : List (ByteArray × ByteArray)) (r : List UInt8), (∀ i, i < Q.length → (Q.getD i putNone).1.size < 65536 ∧ (Q.getD i putNone).2.size < 65536) → rdPuts Q.length (putsBy Q ++ r) false = (Q, r, false)
  | [], r, _ => rfl
  | (x, y) :: Q, r, h => by
    have hx : x.size < 65536 ∧ y.size < 65536 := h 0 (by simp)
    obtain ⟨h1, h2, h3⟩ := text_full hx.1 (textB y ++ (putsBy Q ++ r))
    obtain ⟨k1, k2, k3⟩ := text_full hx.2 (putsBy Q ++ r)
    have ih := rdPuts_full Q r (fun i hi => h (i + 1) (by simpa using hi))
    show rdPuts (Q.length + 1) (((textB x ++ textB y) ++ putsBy Q) ++ r) false = _
    rw [List.append_assoc, List.append_assoc]
    unfold rdPuts
    rw [if_neg (by simp), h1, h2, h3, Bool.not_true, k1, k2, k3, Bool.not_true, ih]

theorem rdParts_range : ∀ (n : Nat) (l : List UInt8) (bad : Bool), (rdParts n l bad).1.length ≤ n ∧ ∀ x ∈ (rdParts n l bad).1, 0 ≤ x ∧ x < 65536
  | 0, l, bad => ⟨Nat.le_refl _, by simp [rdParts]⟩
  | n + 1, l, bad => by
    unfold rdParts
    cases bad with
    | true => simp
    | false =>
      rw [if_neg (by simp)]
      obtain ⟨h1, h2⟩ := rdParts_range n (after l false 2) (!canTake l false 2)
      have := small_lt l false
      refine ⟨by simpa using h1, fun x hx => ?_⟩
      rcases List.mem_cons.1 hx with rfl | hx
      · omega
      · exact h2 x hx

theorem rdPuts_range : ∀ (n : Nat) (l : List UInt8) (bad : Bool), (rdPuts n l bad).1.length ≤ n ∧ ∀ x ∈ (rdPuts n l bad).1, x.1.size < 65536 ∧ x.2.size < 65536
  | 0, l, bad => ⟨Nat.le_refl _, by simp [rdPuts]⟩
  | n + 1, l, bad => by
    unfold rdPuts
    cases bad with
    | true => simp
    | false =>
      rw [if_neg (by simp)]
      obtain ⟨h1, h2⟩ := rdPuts_range n (textA (textA l false) (!textC l false)) (!textC (textA l false) (!textC l false))
      refine ⟨by simpa using h1, fun x hx => ?_⟩
      rcases List.mem_cons.1 hx with rfl | hx
      · exact ⟨text_size _ _, text_size _ _⟩
      · exact h2 x hx

/-- What stands behind a record's kind and number; by what its kind has. -/
def rdTail (k t : Int) (l : List UInt8) (bad : Bool) : RecV × List UInt8 × Bool :=
  if k = 2 then (⟨k, t, longN (taken l bad 8), false, [], []⟩, after l bad 8, !canTake l bad 8)
  else if k = 5 then (⟨k, t, 0, truthV l bad, [], []⟩, truthA l bad, !truthC l bad)
  else if k = 6 ∨ k = 8 ∨ k = 9 then (⟨k, t, 0, false, (rdParts (leN (taken l bad 2)) (after l bad 2) (!canTake l bad 2)).1, []⟩, (rdParts (leN (taken l bad 2)) (after l bad 2) (!canTake l bad 2)).2)
  else if k = 4 ∨ k = 7 then (⟨k, t, 0, false, [], (rdPuts (leN (taken l bad 2)) (after l bad 2) (!canTake l bad 2)).1⟩, (rdPuts (leN (taken l bad 2)) (after l bad 2) (!canTake l bad 2)).2)
  else (⟨k, t, 0, false, [], []⟩, l, bad)

def rdRec (l : List UInt8) : RecV × List UInt8 × Bool :=
  rdTail (leN (taken l false 2) : Nat) (longN (taken (after l false 2) (!canTake l false 2) 8)) (after (after l false 2) (!canTake l false 2) 8) (!canTake (after l false 2) (!canTake l false 2) 8)

theorem rdTail_sound (k t : Int) (l : List UInt8) (bad : Bool) (h : (rdTail k t l bad).2 = ([], false)) : bad = false ∧ (rdTail k t l bad).1.kind = k ∧ (rdTail k t l bad).1.tid = t ∧ recTail (rdTail k t l bad).1 = l := by
  unfold rdTail at h ⊢
  unfold recTail
  by_cases h2 : k = 2
  · rw [if_pos h2] at h ⊢
    injection h with h3 h4
    obtain ⟨h5, h6⟩ := long_sound (by simpa using h4)
    rw [h3, List.append_nil] at h6
    refine ⟨h5, rfl, rfl, ?_⟩
    dsimp only
    rw [if_pos h2]
    exact h6.symm
  rw [if_neg h2] at h ⊢
  by_cases h5 : k = 5
  · rw [if_pos h5] at h ⊢
    injection h with h3 h4
    obtain ⟨h5', h6⟩ := truth_sound (by simpa using h4)
    rw [h3, List.append_nil] at h6
    refine ⟨h5', rfl, rfl, ?_⟩
    dsimp only
    rw [if_neg h2, if_pos h5]
    exact h6.symm
  rw [if_neg h5] at h ⊢
  by_cases h6 : k = 6 ∨ k = 8 ∨ k = 9
  · rw [if_pos h6] at h ⊢
    have h4 : (rdParts (leN (taken l bad 2)) (after l bad 2) (!canTake l bad 2)).2.2 = false := by rw [h]
    have h3 : (rdParts (leN (taken l bad 2)) (after l bad 2) (!canTake l bad 2)).2.1 = [] := by rw [h]
    obtain ⟨s1, s2, s3⟩ := rdParts_sound _ _ _ h4
    obtain ⟨s4, s5, -⟩ := small_sound (l := l) (bad := bad) (by simpa using s1)
    rw [h3, List.append_nil] at s3
    refine ⟨s4, rfl, rfl, ?_⟩
    dsimp only
    rw [if_neg h2, if_neg h5, if_pos h6, s2, ← s3]
    exact s5.symm
  rw [if_neg h6] at h ⊢
  by_cases h7 : k = 4 ∨ k = 7
  · rw [if_pos h7] at h ⊢
    have h4 : (rdPuts (leN (taken l bad 2)) (after l bad 2) (!canTake l bad 2)).2.2 = false := by rw [h]
    have h3 : (rdPuts (leN (taken l bad 2)) (after l bad 2) (!canTake l bad 2)).2.1 = [] := by rw [h]
    obtain ⟨s1, s2, s3⟩ := rdPuts_sound _ _ _ h4
    obtain ⟨s4, s5, -⟩ := small_sound (l := l) (bad := bad) (by simpa using s1)
    rw [h3, List.append_nil] at s3
    refine ⟨s4, rfl, rfl, ?_⟩
    dsimp only
    rw [if_neg h2, if_neg h5, if_neg h6, if_pos h7, s2, ← s3]
    exact s5.symm
  rw [if_neg h7] at h ⊢
  injection h with h3 h4
  refine ⟨h4, rfl, rfl, ?_⟩
  dsimp only
  rw [if_neg h2, if_neg h5, if_neg h6, if_neg h7]
  exact h3.symm

/-- What is read to its end are just its bytes. -/
theorem rdRec_sound (l : List UInt8) (h : (rdRec l).2 = ([], false)) : recBytes (rdRec l).1 = l := by
  unfold rdRec at h ⊢
  obtain ⟨h1, h2, h3, h4⟩ := rdTail_sound _ _ _ _ h
  unfold recBytes
  rw [h2, h3, h4]
  obtain ⟨h5, h6⟩ := long_sound (l := after l false 2) (bad := !canTake l false 2) (by simpa using h1)
  obtain ⟨-, h7, -⟩ := small_sound (l := l) (bad := false) (by simpa using h5)
  rw [List.append_assoc, ← h6]
  exact h7.symm

/-- A record's bytes are read as that record. -/
theorem rdRec_full (r : RecV) (h : recB r = true) : rdRec (recBytes r) = (r, [], false) := by
  obtain ⟨a1, a9, at_, ai, ai2, ay, ap, aq, apl, apb, aql, aqb⟩ := recB_says h
  obtain ⟨k, t, d, y, P, Q⟩ := r
  dsimp only at *
  unfold rdRec recBytes
  dsimp only
  rw [List.append_assoc]
  obtain ⟨h1, h2, h3⟩ := small_full (n := k) (by omega) (longB t ++ recTail ⟨k, t, d, y, P, Q⟩)
  obtain ⟨h4, h5, h6⟩ := long_full (home_ok at_) (recTail ⟨k, t, d, y, P, Q⟩)
  rw [h1, h2, h3, Bool.not_true, h4, h5, h6, Bool.not_true]
  unfold rdTail recTail
  dsimp only
  clear h1 h2 h3 h4 h5 h6 h
  by_cases h2 : k = 2
  · rw [if_pos h2, if_pos h2]
    obtain ⟨h4, h5, h6⟩ := long_full (home_ok (ai2 h2)) []
    rw [List.append_nil] at h4 h5 h6
    rw [h4, h5, h6]
    subst h2
    simp at ay ap aq
    simp [ay, ap, aq]
  rw [if_neg h2, if_neg h2]
  by_cases h5 : k = 5
  · rw [if_pos h5, if_pos h5]
    obtain ⟨h4, h5', h6⟩ := truth_full y []
    rw [List.append_nil] at h4 h5' h6
    rw [h4, h5', h6]
    subst h5
    simp at ai ap aq
    simp [ai, ap, aq]
  rw [if_neg h5, if_neg h5]
  by_cases h6 : k = 6 ∨ k = 8 ∨ k = 9
  · rw [if_pos h6, if_pos h6]
    obtain ⟨h4, h5', h7⟩ := small_full (n := (P.length : Nat)) (by omega) (partsBy P)
    have hf := rdParts_full P [] (fun i hi => broker_ok (apb i hi))
    rw [List.append_nil] at hf
    have h4 : leN (taken (smallB (P.length : Nat) ++ partsBy P) false 2) = P.length := by omega
    rw [h4, h5', h7, Bool.not_true, hf]
    have e1 : d = 0 := by omega
    have e2 : y = false := by rcases ay with e | e <;> first | exact e | omega
    have e3 : Q = [] := by rcases aq with e | e | e <;> first | exact e | omega
    rw [e1, e2, e3]
  rw [if_neg h6, if_neg h6]
  have e1 : d = 0 := by omega
  have e2 : y = false := by rcases ay with e | e <;> first | exact e | omega
  have e3 : P = [] := by rcases ap with e | e | e | e <;> first | exact e | omega
  by_cases h7 : k = 4 ∨ k = 7
  · rw [if_pos h7, if_pos h7]
    obtain ⟨h4, h5', h8⟩ := small_full (n := (Q.length : Nat)) (by omega) (putsBy Q)
    have hf := rdPuts_full Q [] (fun i hi => by have := putB_sizes (aqb i hi); omega)
    rw [List.append_nil] at hf
    have h4 : leN (taken (smallB (Q.length : Nat) ++ putsBy Q) false 2) = Q.length := by omega
    rw [h4, h5', h8, Bool.not_true, hf]
    rw [e1, e2, e3]
  rw [if_neg h7, if_neg h7]
  have e4 : Q = [] := by rcases aq with e | e | e <;> first | exact e | omega
  rw [e1, e2, e3, e4]

end Go.Proofs.YtjmainefmiefcaaGreat


/-
  The walk of the law's own Record.
-/
namespace Go.Proofs.YtjmainefmiefcaaGreat
open Go.RowKit

def cutP (p : ByteArray × ByteArray) : ByteArray × ByteArray := (cutN p.1 10, cutN p.2 62)

/-- A record, cut to a size. -/
def recCut (r : RecV) : RecV := { r with parts := r.parts.take 9, puts := (r.puts.take 12).map cutP }

theorem cell_new2 (w : World) (x y : Value) (t : TypeId) : (w.alloc (.cells #[x, y] t)).cell? ⟨w.heap.size, 0, none⟩ = some x ∧ (w.alloc (.cells #[x, y] t)).cell? ⟨w.heap.size, 1, none⟩ = some y := by
  have h : (w.alloc (.cells #[x, y] t)).heap[w.heap.size]? = some (.cells #[x, y] t) := heap_alloc_new w _
  constructor <;> rw [cell_of_row _ _ _ _ _ _ h] <;> rfl

theorem put_up (wr : World) (o : Obj) : Turn [] wr (wr.alloc o).drew := (Turn.alloc [] wr o).trans (Turn.drew [] _) (by simp)

theorem turn_row {w1 wr w5 : World} {o : Obj} {r : Option Nat} (t : Turn [] w1 wr) (g : (wr.alloc o).drew.grownBy w5 r) (h : ∀ k, r = some k → w1.heap.size ≤ k) : Turn [] w1 w5 :=
  (t.trans (put_up wr o) (by simp)).trans (Turn.grown (l := r.toList) g (fun k hk => .inl (by simp [hk]))) (fun i hi => .inr (h i (by simpa using hi)))

theorem low_row {w1 wr : World} {o : Obj} {a r : Option Nat} (t : Turn [] w1 wr) (h : ∀ k, r = some k → w1.heap.size ≤ k) (e : a = r ∨ a = some (wr.alloc o).drew.heap.size) : ∀ k, a = some k → w1.heap.size ≤ k := by
  intro k hk
  rcases e with e | e
  · exact h k (e.symm.trans hk)
  · rw [e] at hk
    have := (t.trans (put_up wr o) (by simp)).size
    injection hk with hk
    omega

theorem six_cells (w7 : World) (q : Nat) (u0 u1 u2 u3 u4 u5 u6 : Value) : Turn [q, q + 1] w7 (((((((w7.setCell ⟨q, 4, none⟩ u0).setCell ⟨q + 1, 0, none⟩ u1).setCell ⟨q + 1, 1, none⟩ u2).setCell ⟨q + 1, 2, none⟩ u3).setCell ⟨q + 1, 3, none⟩ u4).setCell ⟨q + 1, 4, none⟩ u5).setCell ⟨q + 1, 5, none⟩ u6) := by
  have s := fun (w : World) (i : Nat) (u : Value) => Turn.setCell (l := [q, q + 1]) (b := q + 1) (i := i) w (by simp) u
  exact ((((((Turn.setCell w7 (by simp) u0).trans (s _ _ u1) (fun i hi => .inl hi)).trans (s _ _ u2) (fun i hi => .inl hi)).trans (s _ _ u3) (fun i hi => .inl hi)).trans (s _ _ u4) (fun i hi => .inl hi)).trans (s _ _ u5) (fun i hi => .inl hi)).trans (s _ _ u6) (fun i hi => .inl hi)

theorem six_heap {w7 : World} {q : Nat} {a0 a1 a2 a3 a4 a5 : Value} {t : TypeId} (b : w7.heap[q + 1]? = some (.cells #[a0, a1, a2, a3, a4, a5] t)) (u0 u1 u2 u3 u4 u5 u6 : Value) : (((((((w7.setCell ⟨q, 4, none⟩ u0).setCell ⟨q + 1, 0, none⟩ u1).setCell ⟨q + 1, 1, none⟩ u2).setCell ⟨q + 1, 2, none⟩ u3).setCell ⟨q + 1, 3, none⟩ u4).setCell ⟨q + 1, 4, none⟩ u5).setCell ⟨q + 1, 5, none⟩ u6).heap[q + 1]? = some (.cells #[u1, u2, u3, u4, u5, u6] t) := by
  have e0 := (block_other (show q + 1 ≠ q by omega) u0 (i := 4)).trans b
  exact block_set (block_set (block_set (block_set (block_set (block_set e0 u1) u2) u3) u4) u5) u6

theorem recsize : (Tryz.prog.info? 100).map (·.size) = some 6 := by kernel_rfl

end Go.Proofs.YtjmainefmiefcaaGreat
