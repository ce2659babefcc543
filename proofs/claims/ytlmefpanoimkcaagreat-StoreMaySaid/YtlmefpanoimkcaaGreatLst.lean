/-
  Lst
-/
import Derived.Test.YtlmefpanoimkcaaGreatLsA
import Derived.Test.YtlmefpanoimkcaaGreatPq
set_option maxHeartbeats 16000000
set_option maxRecDepth 100000
namespace Go.Proofs.YtlmefpanoimkcaaGreat
open Go.RowKit Go.Proofs.YtlmefpanoimkcaaGreat.V
theorem row_cap {w : World} {B : Nat} {e : TypeId} {z n c : Nat} {ao : Option Addr} {xs : List Value} (h : w.ownsRow B e z (.slice ao n c) n xs) : n ≤ c ∧ c ≤ maxLen := by
 rcases h.2 with ⟨h1, h2⟩ | ⟨g, cap, cur, h1, _, _, h2, h3, _⟩
 · injection h1 with _ _ e3
   omega
 · injection h1 with _ _ e3
   subst e3
   exact ⟨h2, h3⟩
theorem min_take {α : Type} (l : List α) (k : Nat) : (min (l.length : Int) (k : Int)).toNat = (l.take k).length := by
 rw [List.length_take]; omega
theorem map_take_step {α β : Type} {f : α → β} {l : List α} {k : Nat} {x : α} (h : l[k]? = some x) : (l.take (k + 1)).map f = (l.take k).map f ++ [f x] := by
 rw [List.take_add_one, h, List.map_append]; rfl
theorem take_minl {α : Type} (l : List α) (k : Nat) : l.take k = l.take (min l.length k) := by
 by_cases h : k ≤ l.length
 · rw [Nat.min_eq_right h]
 · rw [Nat.min_eq_left (by omega), List.take_of_length_le (by omega), List.take_length]
theorem lawState_calls {w0 w : World} (hel : Turn [] w0 w) {a : Ads} {s : StV} (h : StX w0 a s) (hf : s.fit) (hw : s.ms.length * 64 ≤ 140737488355328 ∧ s.waits.length * 32 ≤ 140737488355328 ∧ s.ends.length * 16 ≤ 140737488355328 ∧ s.open_.length * 32 ≤ 140737488355328 ∧ s.noes.length * 32 ≤ 140737488355328) :
 Calls Tryz.prog 17 #[.agg (s.cells a)] w fun e w' => ∃ (q : Nat) (a' : Ads) (LW : List (Lay BrV)) (LO LN : List (Lay PendV)), e = .returned (.agg ((cutS s).cells a')) ∧ Lb w0 w w' q (cutS s) a' LW LO LN := by
 obtain ⟨LW, vw, hW, pW⟩ := h.waits
 obtain ⟨LO, vo, hO, pO⟩ := h.open_
 obtain ⟨LN, vn, hN, pN⟩ := h.noes
 have e1 : s.waits.length = LW.length := by rw [← vw, List.length_map]
 have e2 : s.open_.length = LO.length := by rw [← vo, List.length_map]
 have e3 : s.noes.length = LN.length := by rw [← vn, List.length_map]
 have lm := h.ms.len
 have le := h.ends.len
 have lw := hW.len
 have lo := hO.len
 have ln := hN.len
 have C0 := η (fun wx (t : Turn [] w wx) => refCopy_calls vw vo vn (h.ms.still (hel.trans t)) (hW.still (hel.trans t)) (h.ends.still (hel.trans t)) (hO.still (hel.trans t)) (hN.still (hel.trans t)) hw.1 (by rw [← e1]; exact hw.2.1) hw.2.2.1 (by rw [← e2]; exact hw.2.2.2.1) (by rw [← e3]; exact hw.2.2.2.2))
 have HV := η (And.intro vw (And.intro vo vn))
 have HP := η (And.intro pW (And.intro pO pN))
 have HF := η hf
 have HEL := η hel
 rw [← e1] at lw
 rw [← e2] at lo
 rw [← e3] at ln
 clear hw h hel vw vo vn hW hO hN pW pO pN e1 e2 e3 hf
 obtain ⟨q, hqd⟩ := ε w.heap.size
 have HQD := η hqd
 unfold StV.cells at *
 go_enter Tryz.func17, Tryz.ntmps17
 go_upto_region 1 with fail
 have hb := (Turn.alloc [] (w.alloc (.cells #[.int .i64 s.broker, .int .i64 s.nextId, .int .i64 s.nextSeq, .int .i64 s.tx, .slice a.m s.ms.length a.cm, .slice a.w s.waits.length a.cw, .slice a.e s.ends.length a.ce, .slice a.o s.open_.length a.co, .slice a.n s.noes.length a.cn] 27)) (.cells #[.int .i64 0, .int .i64 0, .int .i64 0, .int .i64 0, .slice none 0 0, .slice none 0 0, .slice none 0 0, .slice none 0 0, .slice none 0 0] 27)).heap (heap_alloc_new w (.cells #[.int .i64 s.broker, .int .i64 s.nextId, .int .i64 s.nextSeq, .int .i64 s.tx, .slice a.m s.ms.length a.cm, .slice a.w s.waits.length a.cw, .slice a.e s.ends.length a.ce, .slice a.o s.open_.length a.co, .slice a.n s.noes.length a.cn] 27))
 have hr := heap_alloc_new (w.alloc (.cells #[.int .i64 s.broker, .int .i64 s.nextId, .int .i64 s.nextSeq, .int .i64 s.tx, .slice a.m s.ms.length a.cm, .slice a.w s.waits.length a.cw, .slice a.e s.ends.length a.ce, .slice a.o s.open_.length a.co, .slice a.n s.noes.length a.cn] 27)) (.cells #[.int .i64 0, .int .i64 0, .int .i64 0, .int .i64 0, .slice none 0 0, .slice none 0 0, .slice none 0 0, .slice none 0 0, .slice none 0 0] 27)
 rw [show (w.alloc (.cells #[.int .i64 s.broker, .int .i64 s.nextId, .int .i64 s.nextSeq, .int .i64 s.tx, .slice a.m s.ms.length a.cm, .slice a.w s.waits.length a.cw, .slice a.e s.ends.length a.ce, .slice a.o s.open_.length a.co, .slice a.n s.noes.length a.cn] 27)).heap.size = w.heap.size + 1 by simp] at hr
 have T0 := η ((Turn.alloc [] w (.cells #[.int .i64 s.broker, .int .i64 s.nextId, .int .i64 s.nextSeq, .int .i64 s.tx, .slice a.m s.ms.length a.cm, .slice a.w s.waits.length a.cw, .slice a.e s.ends.length a.ce, .slice a.o s.open_.length a.co, .slice a.n s.noes.length a.cn] 27)).trans (Turn.alloc [] (w.alloc (.cells #[.int .i64 s.broker, .int .i64 s.nextId, .int .i64 s.nextSeq, .int .i64 s.tx, .slice a.m s.ms.length a.cm, .slice a.w s.waits.length a.cw, .slice a.e s.ends.length a.ce, .slice a.o s.open_.length a.co, .slice a.n s.noes.length a.cn] 27)) (.cells #[.int .i64 0, .int .i64 0, .int .i64 0, .int .i64 0, .slice none 0 0, .slice none 0 0, .slice none 0 0, .slice none 0 0, .slice none 0 0] 27)))
 have HS0 : Hid (((w.alloc (.cells #[.int .i64 s.broker, .int .i64 s.nextId, .int .i64 s.nextSeq, .int .i64 s.tx, .slice a.m s.ms.length a.cm, .slice a.w s.waits.length a.cw, .slice a.e s.ends.length a.ce, .slice a.o s.open_.length a.co, .slice a.n s.noes.length a.cn] 27)).alloc (.cells #[.int .i64 0, .int .i64 0, .int .i64 0, .int .i64 0, .slice none 0 0, .slice none 0 0, .slice none 0 0, .slice none 0 0, .slice none 0 0] 27)).heap.size = q + 2) := η (by rw [hqd]; simp)
 generalize (w.alloc (.cells #[.int .i64 s.broker, .int .i64 s.nextId, .int .i64 s.nextSeq, .int .i64 s.tx, .slice a.m s.ms.length a.cm, .slice a.w s.waits.length a.cw, .slice a.e s.ends.length a.ce, .slice a.o s.open_.length a.co, .slice a.n s.noes.length a.cn] 27)).alloc (.cells #[.int .i64 0, .int .i64 0, .int .i64 0, .int .i64 0, .slice none 0 0, .slice none 0 0, .slice none 0 0, .slice none 0 0, .slice none 0 0] 27) = y0 at *
 rw [← hqd] at hb hr ⊢
 have HR := η hr
 have HB := η hb
 obtain ⟨c0, c1, c2, c3, c4, c5, c6, c7, c8⟩ := nine_of hb
 clear hr hb hqd
 go_wp2_with fail
 refine (C0.out _ T0.out).mono ?_
 rintro e x1 ⟨a', rfl, r1, r2, r3, r4, r5, ap, t1⟩
 rw [HS0.out] at r1 r2 r3 r4 r5
 have hh := t1.heap HB.out
 have hr1 := t1.heap HR.out
 have LB := lb_new (s := s) HEL.out (T0.out.trans t1) (by rw [HQD.out]; exact Nat.le_refl _) hh HV.out.1 HV.out.2.1 HV.out.2.2 HP.out.1 (fun y hy => by
  rcases List.mem_append.1 hy with hy | hy
  · exact HP.out.2.1 y hy
  · exact HP.out.2.2 y hy) (by rw [HQD.out]; omega) r1 r2 r3 r4 r5 ap
 have HR1 : Hid ((((((((((x1.setCell ⟨q, 0, none⟩ (.int .i64 s.broker)).setCell ⟨q, 1, none⟩ (.int .i64 s.nextId)).setCell ⟨q, 2, none⟩ (.int .i64 s.nextSeq)).setCell ⟨q, 3, none⟩ (.int .i64 s.tx)).setCell ⟨q, 4, none⟩ (.slice a'.m s.ms.length a'.cm)).setCell ⟨q, 5, none⟩ (.slice a'.w s.waits.length a'.cw)).setCell ⟨q, 6, none⟩ (.slice a'.e s.ends.length a'.ce)).setCell ⟨q, 7, none⟩ (.slice a'.o s.open_.length a'.co)).setCell ⟨q, 8, none⟩ (.slice a'.n s.noes.length a'.cn)).heap[q + 1]? = some (.cells #[.int .i64 0, .int .i64 0, .int .i64 0, .int .i64 0, .slice none 0 0, .slice none 0 0, .slice none 0 0, .slice none 0 0, .slice none 0 0] 27)) := η ((nine_turn x1 q (.int .i64 s.broker) (.int .i64 s.nextId) (.int .i64 s.nextSeq) (.int .i64 s.tx) (.slice a'.m s.ms.length a'.cm) (.slice a'.w s.waits.length a'.cw) (.slice a'.e s.ends.length a'.ce) (.slice a'.o s.open_.length a'.co) (.slice a'.n s.noes.length a'.cn)).heap hr1)
 have LB1 : Hid (Lb w0 w (((((((((x1.setCell ⟨q, 0, none⟩ (.int .i64 s.broker)).setCell ⟨q, 1, none⟩ (.int .i64 s.nextId)).setCell ⟨q, 2, none⟩ (.int .i64 s.nextSeq)).setCell ⟨q, 3, none⟩ (.int .i64 s.tx)).setCell ⟨q, 4, none⟩ (.slice a'.m s.ms.length a'.cm)).setCell ⟨q, 5, none⟩ (.slice a'.w s.waits.length a'.cw)).setCell ⟨q, 6, none⟩ (.slice a'.e s.ends.length a'.ce)).setCell ⟨q, 7, none⟩ (.slice a'.o s.open_.length a'.co)).setCell ⟨q, 8, none⟩ (.slice a'.n s.noes.length a'.cn)) q s a' LW LO LN) := η LB
 clear c0 c1 c2 c3 c4 c5 c6 c7 c8 C0
 obtain ⟨c0, c1, c2, c3, c4, c5, c6, c7, c8⟩ := nine_of hh
 have f0 : ∀ j, x1.frozen? ⟨q, j, none⟩ = false := fun j => unfrozen_of hh
 clear LB hh hr1 r1 r2 r3 r4 r5 ap t1 HR HB T0
 go_upto_region 2 with fail
 clear c0 c1 c2 c3 c4 c5 c6 c7 c8 f0
 generalize (((((((((x1.setCell ⟨q, 0, none⟩ (.int .i64 s.broker)).setCell ⟨q, 1, none⟩ (.int .i64 s.nextId)).setCell ⟨q, 2, none⟩ (.int .i64 s.nextSeq)).setCell ⟨q, 3, none⟩ (.int .i64 s.tx)).setCell ⟨q, 4, none⟩ (.slice a'.m s.ms.length a'.cm)).setCell ⟨q, 5, none⟩ (.slice a'.w s.waits.length a'.cw)).setCell ⟨q, 6, none⟩ (.slice a'.e s.ends.length a'.ce)).setCell ⟨q, 7, none⟩ (.slice a'.o s.open_.length a'.co)).setCell ⟨q, 8, none⟩ (.slice a'.n s.noes.length a'.cn)) = y1 at *
 have hd := LB1.out.head
 unfold StV.cells at hd
 obtain ⟨d0, d1, d2, d3, d4, d5, d6, d7, d8⟩ := nine_of hd
 have fz : ∀ j, y1.frozen? ⟨q, j, none⟩ = false := fun j => unfrozen_of hd
 have hcap := (row_cap LB1.out.ms).1
 have hmm : 0 ≤ min (s.ms.length : Int) 74 ∧ min (s.ms.length : Int) 74 ≤ (a'.cm : Int) := by omega
 have hk0 : (min (s.ms.length : Int) 74).toNat = (s.ms.take 74).length := min_take s.ms 74
 obtain ⟨n1, hn1⟩ := ε ((s.ms.take 74).length)
 have N1 := η hn1
 rw [← hn1] at hk0
 have hn74 : n1 ≤ 74 := by rw [hn1, List.length_take]; omega
 have LB2 : Hid (Lb w0 w (y1.setCell ⟨q, 4, none⟩ (.slice a'.m n1 a'.cm)) q { s with ms := s.ms.take 74 } a' LW LO LN) := η (LB1.out.cut 4 _ _ LW LO LN (by unfold StV.cells; rw [hn1]; rfl) ⟨min s.ms.length 74, Nat.min_le_left _ _, take_minl _ _⟩ ⟨_, Nat.le_refl _, by rw [List.take_length]⟩ ⟨_, Nat.le_refl _, by rw [List.take_length]⟩ ⟨_, Nat.le_refl _, by rw [List.take_length]⟩ ⟨_, Nat.le_refl _, by rw [List.take_length]⟩ HV.out.1 HV.out.2.1 HV.out.2.2)
 have HR2 : Hid ((y1.setCell ⟨q, 4, none⟩ (.slice a'.m n1 a'.cm)).heap[q + 1]? = some (.cells #[.int .i64 0, .int .i64 0, .int .i64 0, .int .i64 0, .slice none 0 0, .slice none 0 0, .slice none 0 0, .slice none 0 0, .slice none 0 0] 27)) := η ((Turn.setCell (l := [q]) y1 (by simp) _).heap HR1.out)
 clear hd hcap hn1
 go_upto_region 3 with fail
 clear d0 d1 d2 d3 d4 d5 d6 d7 d8 fz hmm hk0 LB1 HR1
 generalize y1.setCell ⟨q, 4, none⟩ (.slice a'.m n1 a'.cm) = y2 at *
 have LB3 : Hid (Lb w0 w y2 q { s with ms := midF cutM (s.ms.take 74) 0 } a' LW LO LN) := η (by rw [midF_zero]; exact LB2.out)
 have hd := LB2.out.head
 unfold StV.cells at hd
 obtain ⟨d0, d1, d2, d3, d4, d5, d6, d7, d8⟩ := nine_of hd
 dsimp only at d0 d1 d2 d3 d4 d5 d6 d7 d8
 rw [← N1.out] at d4
 clear hd LB2
 go_upto_region 4 with fail
 clear d0 d1 d2 d3 d4 d5 d6 d7 d8
 go_loopw [3, 20] (fun v3 v20 wx => ∃ (k : Nat) (u3 : Value), u3 = v3 ∧ k ≤ n1 ∧ v20 = .int .i64 (k : Int) ∧ Lb w0 w wx q { s with ms := midF cutM (s.ms.take 74) k } a' LW LO LN ∧ wx.heap[q + 1]? = some (.cells #[.int .i64 0, .int .i64 0, .int .i64 0, .int .i64 0, .slice none 0 0, .slice none 0 0, .slice none 0 0, .slice none 0 0, .slice none 0 0] 27)) (fun _ v20 _ => n1 - (intOf v20).toNat)
 case atStart => exact ⟨0, _, rfl, by omega, rfl, LB3.out, HR2.out⟩
 case round =>
  obtain ⟨k, u3, rfl, hk, rfl, hlb, hrr⟩ := hrel
  have LB := η hlb
  have HR := η hrr
  clear hlb hrr LB3 HR2
  by_cases hkn : k < n1
  · have hkl : k < (s.ms.take 74).length := by rw [← N1.out]; exact hkn
    obtain ⟨m, hm⟩ : ∃ m, (s.ms.take 74)[k]? = some m := ⟨_, List.getElem?_eq_getElem hkl⟩
    have HM := η (midF_at (f := cutM) hm)
    have HX := η (midF_next (f := cutM) hm)
    have hok := HF.out.ms m (List.mem_of_mem_take (List.mem_of_getElem? hm))
    have hrow := LB.out.ms
    have hd := LB.out.head
    unfold StV.cells at hd
    obtain ⟨d0, d1, d2, d3, d4, d5, d6, d7, d8⟩ := nine_of hd
    dsimp only at hrow d4
    rw [midF_len, ← N1.out] at d4
    have htl : Tl 6 msgC wr a'.m a'.cm (midF cutM (s.ms.take 74) k) := Tl.of_own (n := 6) (f := msgC) (fun _ => rfl) hrow
    rcases hrow.2 with ⟨e, h0⟩ | ⟨g, cap, cur, e, hlo, hg, hle, hmx, hsz, htk⟩
    · rw [midF_len] at h0; omega
    injection e with e1 _ e3
    have q1 : wr.cell? ⟨g, k * 6 + 1, none⟩ = some (.string m.queue) := by
     obtain ⟨g', off', e0, hat⟩ := htl.at HM.out
     rw [e1] at e0
     injection e0 with e0
     injection e0 with e4 e5 _
     subst e4 e5
     have := hat 1 _ rfl
     rwa [Nat.zero_add] at this
    have q2 : wr.cell? ⟨g, k * 6 + 2, none⟩ = some (.string m.body) := by
     obtain ⟨g', off', e0, hat⟩ := htl.at HM.out
     rw [e1] at e0
     injection e0 with e0
     injection e0 with e4 e5 _
     subst e4 e5
     have := hat 2 _ rfl
     rwa [Nat.zero_add] at this
    have hfr : ∀ j, wr.frozen? ⟨g, j, none⟩ = false := fun j => unfrozen_of hg
    have hqg : q ≠ g := by
     intro e
     subst e
     rw [hd] at hg
     injection hg with hg
     injection hg with _ h2 _
     exact absurd h2 (by decide)
    have hgq : g ≠ q := fun e => hqg e.symm
    have HROW : Hid (wr.ownsRow w.heap.size 49 6 (.slice (some ⟨g, 0, none⟩) (midF cutM (s.ms.take 74) k).length a'.cm) (midF cutM (s.ms.take 74) k).length ((midF cutM (s.ms.take 74) k).flatMap msgC)) := η (by rw [← e1]; exact hrow)
    have HE1 := η e1
    have HGG := η hg
    have HLO := η hlo
    rw [e1] at d4
    have hb : 0 ≤ (k : Int) ∧ (k : Int) < (n1 : Int) := by omega
    obtain ⟨i, qu, bo, sq, co, by_⟩ := m
    dsimp only at q1 q2 hok
    have C1 : Hid (∀ wx : World, Calls Tryz.prog 45 #[.string qu, .int .i64 10] wx fun e w' => e = .returned (.string (cutN qu 10)) ∧ w' = wx) := η (fun wx => cut8_calls qu 10 wx hok.2.2.2.2.1 (by omega))
    have C2 : Hid (∀ wx : World, Calls Tryz.prog 45 #[.string bo, .int .i64 62] wx fun e w' => e = .returned (.string (cutN bo 62)) ∧ w' = wx) := η (fun wx => cut8_calls bo 62 wx hok.2.2.2.2.2 (by omega))
    obtain ⟨qz, hqz⟩ := ε (cutN qu 10)
    obtain ⟨bz, hbz⟩ := ε (cutN bo 62)
    rw [← hqz] at C1
    rw [← hbz] at C2
    have HCM : Hid (cutM ⟨i, qu, bo, sq, co, by_⟩ = ⟨i, qz, bz, sq, co, by_⟩) := η (by unfold cutM; rw [hqz, hbz])
    have TD := Turn.drew [] wr
    have LB4 : Hid (Lb w0 w ((wr.drew.setCell ⟨g, k * 6 + 1, none⟩ (.string qz)).setCell ⟨g, k * 6 + 2, none⟩ (.string bz)) q { s with ms := midF cutM (s.ms.take 74) (k + 1) } a' LW LO LN) := η (by
     have hrd := ownsRow_turn HROW.out TD
     have S1 := (hrd.stored (k * 6 + 1) (.string qz)).1
     have hs1 := flat_set msgC_len (midF cutM (s.ms.take 74) k) k 1 _ ⟨i, qz, bo, sq, co, by_⟩ (.string qz) HM.out (by omega) rfl
     rw [hs1] at S1
     have hk2 : k < (midF cutM (s.ms.take 74) k).length := by rw [midF_len]; exact hkl
     have S2 := (S1.stored (k * 6 + 2) (.string bz)).1
     have hs2 := flat_set msgC_len ((midF cutM (s.ms.take 74) k).set k ⟨i, qz, bo, sq, co, by_⟩) k 2 ⟨i, qz, bo, sq, co, by_⟩ ⟨i, qz, bz, sq, co, by_⟩ (.string bz) (by rw [List.getElem?_set_self hk2]) (by omega) rfl
     rw [hs2, List.set_set, ← HCM.out, ← HX.out] at S2
     have hlx : (midF cutM (s.ms.take 74) k).length = (midF cutM (s.ms.take 74) (k + 1)).length := by rw [midF_len, midF_len]
     rw [hlx] at S2
     have TT : Turn [g] wr.drew ((wr.drew.setCell ⟨g, k * 6 + 1, none⟩ (.string qz)).setCell ⟨g, k * 6 + 2, none⟩ (.string bz)) := (Turn.setCell (l := [g]) wr.drew (by simp) _).trans (Turn.setCell (l := [g]) _ (by simp) _) (fun i hi => .inl hi)
     exact (LB.out.still TD).inMs (M := midF cutM (s.ms.take 74) (k + 1)) hlx.symm TT (TD.heap HGG.out) HLO.out (by rw [HE1.out]; exact S2))
    have HR4 : Hid (((wr.drew.setCell ⟨g, k * 6 + 1, none⟩ (.string qz)).setCell ⟨g, k * 6 + 2, none⟩ (.string bz)).heap[q + 1]? = some (.cells #[.int .i64 0, .int .i64 0, .int .i64 0, .int .i64 0, .slice none 0 0, .slice none 0 0, .slice none 0 0, .slice none 0 0, .slice none 0 0] 27)) := η (by
     have TT : Turn [g] wr.drew ((wr.drew.setCell ⟨g, k * 6 + 1, none⟩ (.string qz)).setCell ⟨g, k * 6 + 2, none⟩ (.string bz)) := (Turn.setCell (l := [g]) wr.drew (by simp) _).trans (Turn.setCell (l := [g]) _ (by simp) _) (fun i hi => .inl hi)
     exact heap_keep (TD.heap HR.out) TT (lb_typed (TD.heap HGG.out)) (by decide))
    have hS6 : (wr.drew.setCell ⟨g, k * 6 + 1, none⟩ (.string qz)).cell? ⟨q, 4, none⟩ = some (.slice (some ⟨g, 0, none⟩) n1 a'.cm) := (Turn.setCell (l := [g]) wr.drew (by simp) _).cell d4 (by simpa using hqg)
    have hS7 : ((wr.drew.setCell ⟨g, k * 6 + 1, none⟩ (.string qz)).setCell ⟨g, k * 6 + 2, none⟩ (.string bz)).cell? ⟨q, 4, none⟩ = some (.slice (some ⟨g, 0, none⟩) n1 a'.cm) := (Turn.setCell (l := [g]) _ (by simp) _).cell hS6 (by simpa using hqg)
    clear d0 d1 d2 d3 d5 d6 d7 d8 hd hrow htl e1 e3 hg hlo hle hmx hsz htk hok hqz hbz hm hkl TD LB HR HM HX HROW HCM
    go_upto_region 6 with fail
    refine Pq.start [22, 25] (fun x => x.cell? ⟨q, 4, none⟩ = some (.slice (some ⟨g, 0, none⟩) n1 a'.cm)) (fun x => x.cell? ⟨g, k * 6 + 1, none⟩ = some (.string qu) ∧ x.cell? ⟨g, k * 6 + 2, none⟩ = some (.string bo)) (by kernel_rfl) ?_
    have hS : wr.drew.cell? ⟨q, 4, none⟩ = some (.slice (some ⟨g, 0, none⟩) n1 a'.cm) := d4
    have hT : wr.drew.cell? ⟨g, k * 6 + 1, none⟩ = some (.string qu) ∧ wr.drew.cell? ⟨g, k * 6 + 2, none⟩ = some (.string bo) := ⟨q1, q2⟩
    refine Pq.tq 0 (some 23) hS ?_
    simp only [Act.put, σa, σz, σs]
    refine Pq.tq 1 (some 24) hS ?_
    simp only [Act.put, σa, σz, σs]
    refine Pq.tq 2 (some 25) hS ?_
    simp only [Act.put, σa, σz, σs]
    refine Pq.tq 3 (some 26) hS ?_
    simp only [Act.put, σa, σz, σs]
    refine Pq.tq 4 (some 27) hS ?_
    simp only [Act.put, σa, σz, σs]
    refine Pq.tq 5 (some 28) hS ?_
    simp only [Act.put, σa, σz, σs]
    refine Pq.tq 6 (some 29) hS ?_
    simp only [Act.put, σa, σz, σs]
    refine Pq.tq 7 (some 30) hS ?_
    simp only [Act.put, σa, σz, σs]
    refine Pq.tq 8 (some 31) hS ?_
    simp only [Act.put, σa, σz, σs]
    refine Pq.tq 9 (some 32) hS ?_
    simp only [Act.put, σa, σz, σs]
    refine Pq.tq 10 (some 33) hS ?_
    simp only [Act.put, σa, σz, σs]
    refine Pq.tq 13 (some 36) hS ?_
    simp only [Act.put, σa, σz, σs]
    refine Pq.tq 14 (some 37) hS ?_
    simp only [Act.put, σa, σz, σs]
    refine Pq.tq 15 (some 38) hS ?_
    simp only [Act.put, σa, σz, σs]
    refine Pq.tq 16 (some 39) hS ?_
    simp only [Act.put, σa, σz, σs]
    refine Pq.tq 17 (some 40) hS ?_
    simp only [Act.put, σa, σz, σs]
    refine Pq.tq2 11 (some 34) hS hT ?_
    simp only [Act.put, σa, σz, σs]
    refine Pq.tq2 18 (some 41) hS hT ?_
    simp only [Act.put, σa, σz, σs]
    refine Pq.one (i := 12) (by kernel_rfl) rfl ?_
    intro K hK
    rw [if_pos (by rfl)]
    go_simp
    refine (C1.out _).mono ?_
    rintro e x ⟨rfl, rfl⟩
    refine hK _ _ hS (.inr id) ?_
    clear hK K
    refine Pq.one (i := 19) (by kernel_rfl) rfl ?_
    intro K hK
    rw [if_pos (by rfl)]
    go_simp
    refine (C2.out _).mono ?_
    rintro e x ⟨rfl, rfl⟩
    refine hK _ _ hS (.inr id) ?_
    clear hK K
    refine Pq.tq 20 (some 43) hS ?_
    simp only [Act.put, σa, σz, σs]
    refine Pq.tq 21 (some 44) hS ?_
    simp only [Act.put, σa, σz, σs]
    refine Pq.one (i := 22) (by kernel_rfl) rfl ?_
    intro K hK
    rw [if_pos (by rfl)]
    go_simp
    refine hK _ _ hS6 (.inl (by simp)) ?_
    clear hK K
    refine Pq.tq 23 (some 45) hS6 ?_
    simp only [Act.put, σa, σz, σs]
    refine Pq.tq 24 (some 46) hS6 ?_
    simp only [Act.put, σa, σz, σs]
    refine Pq.one (i := 25) (by kernel_rfl) rfl ?_
    intro K hK
    rw [if_pos (by rfl)]
    go_simp
    refine hK _ _ hS7 (.inl (by simp)) (Pq.done (by kernel_rfl) ?_ _)
    clear hK K
    go_wp2_with fail
    go_roundw
    case rel => exact ⟨k + 1, _, rfl, by omega, by go_num, LB4.out, HR4.out⟩
    case measure => simp [intOf]; omega
  · have hkk : n1 = k := by omega
    subst hkk
    obtain ⟨M1, hM1⟩ := ε ((s.ms.take 74).map cutM)
    have HM1 := η hM1
    have LB5 : Hid (Lb w0 w wr q { s with ms := M1 } a' LW LO LN) := η (by
     have := LB.out
     rw [midF_end (by rw [← N1.out]; exact Nat.le_refl _), ← hM1] at this
     exact this)
    have hM1l : M1.length = n1 := by rw [hM1, List.length_map, ← N1.out]
    have hd := LB5.out.head
    unfold StV.cells at hd
    obtain ⟨d0, d1, d2, d3, d4, d5, d6, d7, d8⟩ := nine_of hd
    dsimp only at d0 d1 d2 d3 d4 d5 d6 d7 d8
    have fz : ∀ j, wr.frozen? ⟨q, j, none⟩ = false := fun j => unfrozen_of hd
    have hcap := (row_cap LB5.out.es).1
    dsimp only at hcap
    have hmm : 0 ≤ min (s.ends.length : Int) 30 ∧ min (s.ends.length : Int) 30 ≤ (a'.ce : Int) := by omega
    have hk0 : (min (s.ends.length : Int) 30).toNat = (s.ends.take 30).length := min_take s.ends 30
    obtain ⟨n2, hn2⟩ := ε ((s.ends.take 30).length)
    rw [← hn2] at hk0
    have LB6 : Hid (Lb w0 w (wr.setCell ⟨q, 6, none⟩ (.slice a'.e n2 a'.ce)) q { s with ms := M1, ends := s.ends.take 30 } a' LW LO LN) := η (LB5.out.cut 6 _ _ LW LO LN (by unfold StV.cells; rw [hn2]; rfl) ⟨_, Nat.le_refl _, by rw [List.take_length]⟩ ⟨min s.ends.length 30, Nat.min_le_left _ _, take_minl _ _⟩ ⟨_, Nat.le_refl _, by rw [List.take_length]⟩ ⟨_, Nat.le_refl _, by rw [List.take_length]⟩ ⟨_, Nat.le_refl _, by rw [List.take_length]⟩ HV.out.1 HV.out.2.1 HV.out.2.2)
    have HR6 : Hid ((wr.setCell ⟨q, 6, none⟩ (.slice a'.e n2 a'.ce)).heap[q + 1]? = some (.cells #[.int .i64 0, .int .i64 0, .int .i64 0, .int .i64 0, .slice none 0 0, .slice none 0 0, .slice none 0 0, .slice none 0 0, .slice none 0 0] 27)) := η ((Turn.setCell (l := [q]) wr (by simp) _).heap HR.out)
    clear hd hcap hn2 hkn hk HR LB hM1 hM1l
    go_upto_region 9 with fail
    clear d0 d1 d2 d3 d4 d5 d6 d7 d8 fz hmm hk0 LB5
    generalize wr.setCell ⟨q, 6, none⟩ (.slice a'.e n2 a'.ce) = y6 at *
    have hd := LB6.out.head
    unfold StV.cells at hd
    obtain ⟨d0, d1, d2, d3, d4, d5, d6, d7, d8⟩ := nine_of hd
    dsimp only at d0 d1 d2 d3 d4 d5 d6 d7 d8
    have fz : ∀ j, y6.frozen? ⟨q, j, none⟩ = false := fun j => unfrozen_of hd
    have hcap := (row_cap LB6.out.ws).1
    have hlw := LB6.out.lens.1
    dsimp only at hlw
    rw [hlw] at hcap
    have hmm : 0 ≤ min (s.waits.length : Int) 20 ∧ min (s.waits.length : Int) 20 ≤ (a'.cw : Int) := by omega
    have hk0 : (min (s.waits.length : Int) 20).toNat = (s.waits.take 20).length := min_take s.waits 20
    obtain ⟨n3, hn3⟩ := ε ((s.waits.take 20).length)
    have N3 : Hid (n3 = (LW.take 20).length) := η (by rw [hn3, List.length_take, List.length_take, hlw])
    rw [← hn3] at hk0
    obtain ⟨LV, hLV⟩ := ε (LW.take 20)
    have HLV := η hLV
    have LB7 : Hid (Lb w0 w (y6.setCell ⟨q, 5, none⟩ (.slice a'.w n3 a'.cw)) q { s with ms := M1, ends := s.ends.take 30, waits := s.waits.take 20 } a' LV LO LN) := η (LB6.out.cut 5 _ _ LV LO LN (by unfold StV.cells; rw [hn3]; rfl) ⟨_, Nat.le_refl _, by rw [List.take_length]⟩ ⟨_, Nat.le_refl _, by rw [List.take_length]⟩ ⟨min LW.length 20, Nat.min_le_left _ _, by rw [hLV]; exact take_minl _ _⟩ ⟨_, Nat.le_refl _, by rw [List.take_length]⟩ ⟨_, Nat.le_refl _, by rw [List.take_length]⟩ (by rw [hLV, List.map_take, HV.out.1]) HV.out.2.1 HV.out.2.2)
    have HR7 : Hid ((y6.setCell ⟨q, 5, none⟩ (.slice a'.w n3 a'.cw)).heap[q + 1]? = some (.cells #[.int .i64 0, .int .i64 0, .int .i64 0, .int .i64 0, .slice none 0 0, .slice none 0 0, .slice none 0 0, .slice none 0 0, .slice none 0 0] 27)) := η ((Turn.setCell (l := [q]) y6 (by simp) _).heap HR6.out)
    clear hd hcap hn3 hlw hLV HR6
    go_upto_region 10 with fail
    clear d0 d1 d2 d3 d4 d5 d6 d7 d8 fz hmm hk0 LB6
    generalize y6.setCell ⟨q, 5, none⟩ (.slice a'.w n3 a'.cw) = y7 at *
    have HVV : Hid (LV.map Lay.v = s.waits.take 20) := η LB7.out.vw
    have hvl : (s.waits.take 20).length = n3 := by rw [← HVV.out, List.length_map, HLV.out, ← N3.out]
    have HPV : Hid (∀ x ∈ LV, Ps w0 x.ao x.c x.v.puts) := η (fun x hx => HP.out.1 x (by rw [HLV.out] at hx; exact List.mem_of_mem_take hx))
    rw [← HLV.out] at N3
    have hd := LB7.out.head
    unfold StV.cells at hd
    obtain ⟨d0, d1, d2, d3, d4, d5, d6, d7, d8⟩ := nine_of hd
    dsimp only at d0 d1 d2 d3 d4 d5 d6 d7 d8
    rw [hvl] at d5
    have hn20 : n3 ≤ 20 := by rw [← hvl, List.length_take]; omega
    have LB8 : Hid (Lb w0 w y7 q { s with ms := M1, ends := s.ends.take 30, waits := (([] : List (Lay BrV)) ++ LV.drop 0).map Lay.v } a' ([] ++ LV.drop 0) LO LN) := η (by rw [List.nil_append, List.drop_zero, HVV.out]; exact LB7.out)
    clear hd hvl
    go_upto_region 11 with fail
    clear d0 d1 d2 d3 d4 d5 d6 d7 d8 LB7
    go_loopw [4, 67] (fun v4 v67 wx => ∃ (k : Nat) (u4 : Value) (D : List (Lay BrV)), u4 = v4 ∧ k ≤ n3 ∧ v67 = .int .i64 (k : Int) ∧ D.length = k ∧ D.map Lay.v = ((s.waits.take 20).take k).map cutW ∧ Lb w0 w wx q { s with ms := M1, ends := s.ends.take 30, waits := (D ++ LV.drop k).map Lay.v } a' (D ++ LV.drop k) LO LN ∧ wx.heap[q + 1]? = some (.cells #[.int .i64 0, .int .i64 0, .int .i64 0, .int .i64 0, .slice none 0 0, .slice none 0 0, .slice none 0 0, .slice none 0 0, .slice none 0 0] 27)) (fun _ v67 _ => n3 - (intOf v67).toNat)
    case atStart => exact ⟨0, _, [], rfl, by omega, rfl, rfl, by simp, LB8.out, HR7.out⟩
    case round =>
     obtain ⟨k, u4, D, rfl, hk, rfl, hdl, hdv, hlb, hrr⟩ := hrel
     have LB := η hlb
     have HR := η hrr
     have HDL := η hdl
     have HDV := η hdv
     clear hlb hrr hdl hdv LB8 HR7
     have hd := LB.out.head
     unfold StV.cells at hd
     obtain ⟨d0, d1, d2, d3, d4, d5, d6, d7, d8⟩ := nine_of hd
     dsimp only at d0 d1 d2 d3 d4 d5 d6 d7 d8
     have hlen : (D ++ LV.drop k).length = n3 := by rw [List.length_append, List.length_drop, HDL.out, ← N3.out]; omega
     rw [List.length_map, hlen] at d5
     by_cases hkn : k < n3
     · obtain ⟨x, hx⟩ : ∃ x, LV[k]? = some x := ⟨_, List.getElem?_eq_getElem (by rw [← N3.out]; exact hkn)⟩
       have hlx : (s.waits.take 20)[k]? = some x.v := by rw [← HVV.out, List.getElem?_map, hx]; rfl
       have hdx : (D ++ LV.drop k)[k]? = some x := by
        rw [List.getElem?_append_right (by rw [HDL.out]; exact Nat.le_refl _), HDL.out, Nat.sub_self, List.getElem?_drop, Nat.add_zero]
        exact hx
       have hrow := LB.out.ws
       have htl : Tl 2 brC wr a'.w a'.cw (D ++ LV.drop k) := Tl.of_own (n := 2) (f := brC) (fun _ => rfl) hrow
       rcases hrow.2 with ⟨e, h0⟩ | ⟨g, cap, cur, e, hlo, hg, hle, hmx, hsz, htk⟩
       · omega
       injection e with e1 _ e3
       have q1 : wr.cell? ⟨g, k * 2 + 1, none⟩ = some (.slice x.ao x.v.puts.length x.c) := by
        obtain ⟨g', off', e0, hat⟩ := htl.at hdx
        rw [e1] at e0
        injection e0 with e0
        injection e0 with e4 e5 _
        subst e4 e5
        have := hat 1 _ rfl
        rwa [Nat.zero_add] at this
       have hqg : q ≠ g := by
        intro e
        subst e
        rw [hd] at hg
        injection hg with hg
        injection hg with _ h2 _
        exact absurd h2 (by decide)
       have HE1 := η e1
       have HGG := η hg
       have HLO := η hlo
       have HROW : Hid (wr.ownsRow w.heap.size 81 2 (.slice (some ⟨g, 0, none⟩) (D ++ LV.drop k).length a'.cw) (D ++ LV.drop k).length ((D ++ LV.drop k).flatMap brC)) := η (by rw [← e1]; exact hrow)
       rw [e1] at d5
       have hb : 0 ≤ (k : Int) ∧ (k : Int) < (n3 : Int) := by omega
       have HX := η hx
       have HLX := η hlx
       have HDX := η hdx
       have HSZ : Hid (∀ i, i < x.v.puts.length → (x.v.puts.getD i putNone).1.size ≤ 9223372036854775807 ∧ (x.v.puts.getD i putNone).2.size ≤ 9223372036854775807) := η (HPV.out x (List.mem_of_getElem? hx)).sizes
       have CR0 := fun wx (t : Turn [] wr wx) => lawRecord_calls ⟨0, 0, 0, false, [], x.v.puts⟩ (w := wx) (ap := none) (cp := 0) (il_none wx) ((HPV.out x (List.mem_of_getElem? hx)).turn (HEL.out.trans (LB.out.base.trans t)))
       obtain ⟨np, hnp⟩ := ε x.v.puts.length
       unfold RecV.cells recCut at CR0
       dsimp only at CR0
       simp only [List.length_nil] at CR0
       rw [← hnp] at CR0 q1
       have CR := η CR0
       have TD := η (Turn.drew [] wr)
       clear d0 d1 d2 d3 d4 d6 d7 d8 hd hrow htl e1 e3 hg hlo hle hmx hsz htk hx hlx hdx hlen CR0 hnp
       go_upto_region 13 with fail
       refine Pq.start [14] (fun x => x.cell? ⟨q, 5, none⟩ = some (.slice (some ⟨g, 0, none⟩) n3 a'.cw)) (fun z => z.cell? ⟨g, k * 2 + 1, none⟩ = some (.slice x.ao np x.c)) (by kernel_rfl) ?_
       have hS : wr.drew.cell? ⟨q, 5, none⟩ = some (.slice (some ⟨g, 0, none⟩) n3 a'.cw) := d5
       have hT : wr.drew.cell? ⟨g, k * 2 + 1, none⟩ = some (.slice x.ao np x.c) := q1
       clear d5 q1
       refine Pq.tq 0 (some 70) hS ?_
       simp only [Act.put, σa, σz, σs]
       refine Pq.tq 1 (some 71) hS ?_
       simp only [Act.put, σa, σz, σs]
       refine Pq.tq 2 (some 72) hS ?_
       simp only [Act.put, σa, σz, σs]
       refine Pq.tq 3 (some 73) hS ?_
       simp only [Act.put, σa, σz, σs]
       refine Pq.tq 4 (some 74) hS ?_
       simp only [Act.put, σa, σz, σs]
       refine Pq.tq 5 (some 75) hS ?_
       simp only [Act.put, σa, σz, σs]
       refine Pq.tq 6 (some 76) hS ?_
       simp only [Act.put, σa, σz, σs]
       refine Pq.tq 7 (some 77) hS ?_
       simp only [Act.put, σa, σz, σs]
       refine Pq.tq2 8 (some 78) hS hT ?_
       simp only [Act.put, σa, σz, σs]
       refine Pq.tq 9 (some 79) hS ?_
       simp only [Act.put, σa, σz, σs]
       refine Pq.one (i := 10) (by kernel_rfl) rfl ?_
       intro K hK
       rw [if_pos (by rfl)]
       go_simp
       refine (CR.out _ TD.out).mono ?_
       rintro e x2 ⟨ap', cp', aq', cq', rfl, -, o2, -, l2, t2⟩
       have S2 := t2.cell hS
       refine hK _ _ S2 (.inr (fun hh => t2.cell hh)) ?_
       clear hK K hS
       have hT2 := t2.cell hT
       clear hT
       have hg2 := (TD.out.trans t2).heap HGG.out
       have hrow2 := ownsRow_turn HROW.out (TD.out.trans t2)
       have hst := (hrow2.stored (k * 2 + 1) (.slice aq' ((x.v.puts.take 12).map cutP).length cq')).1
       have hfs := flat_set (n := 2) (f := brC) (fun _ => rfl) (D ++ LV.drop k) k 1 x ⟨cutW x.v, aq', cq'⟩ (.slice aq' ((x.v.puts.take 12).map cutP).length cq') HDX.out (by omega) rfl
       rw [hfs] at hst
       have hset : (D ++ LV.drop k).set k (⟨cutW x.v, aq', cq'⟩ : Lay BrV) = (D ++ [⟨cutW x.v, aq', cq'⟩]) ++ LV.drop (k + 1) := by
        rw [drop_cons HX.out, List.set_append_right _ _ (by rw [HDL.out]; exact Nat.le_refl _), HDL.out, Nat.sub_self, List.set_cons_zero, List.append_assoc]
        rfl
       rw [hset] at hst
       have hll : (D ++ LV.drop k).length = ((D ++ [(⟨cutW x.v, aq', cq'⟩ : Lay BrV)]) ++ LV.drop (k + 1)).length := by rw [← hset, List.length_set]
       rw [hll] at hst
       have tg : Turn [g] x2 (x2.setCell ⟨g, k * 2 + 1, none⟩ (.slice aq' ((x.v.puts.take 12).map cutP).length cq')) := Turn.setCell (l := [g]) x2 (by simp) _
       have hwsz := (LB.out.base.trans TD.out).size
       have o3 : x2.ownsRow w.heap.size 45 2 (.slice aq' ((x.v.puts.take 12).map cutP).length cq') ((x.v.puts.take 12).map cutP).length (pcells ((x.v.puts.take 12).map cutP)) := row_own o2 (fun j hj => Nat.le_trans hwsz (l2 j hj))
       have LB9 : Hid (Lb w0 w (x2.setCell ⟨g, k * 2 + 1, none⟩ (.slice aq' ((x.v.puts.take 12).map cutP).length cq')) q { s with ms := M1, ends := s.ends.take 30, waits := ((D ++ [(⟨cutW x.v, aq', cq'⟩ : Lay BrV)]) ++ LV.drop (k + 1)).map Lay.v } a' ((D ++ [⟨cutW x.v, aq', cq'⟩]) ++ LV.drop (k + 1)) LO LN) := η (by
        refine (LB.out.still (TD.out.trans t2)).inWs hll.symm tg hg2 HLO.out (by rw [HE1.out]; exact hst) (fun z hz => ?_)
        rw [← hset] at hz
        rcases List.mem_or_eq_of_mem_set hz with hz | hz
        · exact .inl hz
        · subst hz
          exact .inr (ownsRow_keep o3 tg (lb_typed hg2) (by decide)))
       have HR9 : Hid ((x2.setCell ⟨g, k * 2 + 1, none⟩ (.slice aq' ((x.v.puts.take 12).map cutP).length cq')).heap[q + 1]? = some (.cells #[.int .i64 0, .int .i64 0, .int .i64 0, .int .i64 0, .slice none 0 0, .slice none 0 0, .slice none 0 0, .slice none 0 0, .slice none 0 0] 27)) := η (heap_keep ((TD.out.trans t2).heap HR.out) tg (lb_typed hg2) (by decide))
       have DV : Hid ((D ++ [(⟨cutW x.v, aq', cq'⟩ : Lay BrV)]).map Lay.v = ((s.waits.take 20).take (k + 1)).map cutW) := η (by rw [List.map_append, HDV.out, map_take_step HLX.out]; rfl)
       have DL : Hid ((D ++ [(⟨cutW x.v, aq', cq'⟩ : Lay BrV)]).length = k + 1) := η (by rw [List.length_append, HDL.out]; rfl)
       have hfr : ∀ j, x2.frozen? ⟨g, j, none⟩ = false := fun j => unfrozen_of hg2
       have hS6 := tg.cell S2 (by simpa using hqg)
       have hS := S2
       clear o2 l2 t2 hg2 hrow2 hst hfs hset hll tg hwsz o3 LB HR HDV HDL HX HLX HDX HROW CR
       obtain ⟨nq, hnq⟩ := ε (((x.v.puts.take 12).map cutP).length)
       rw [← hnq] at LB9 HR9 hS6 ⊢
       clear hnq
       have hfd : ∀ z : World, (Instr.field 37 (.agg #[.int .i64 0, .int .i64 0, .int .i64 0, .bool false, .slice ap' 0 cp', .slice aq' nq cq']) 5).run Tryz.prog z = .ok (.slice aq' nq cq') z := fun _ => by kernel_rfl
       refine Pq.tq 11 (some 81) hS ?_
       simp only [Act.put, σa, σz, σs]
       refine Pq.tq 12 (some 82) hS ?_
       simp only [Act.put, σa, σz, σs]
       refine Pq.tq 13 (some 83) hS ?_
       simp only [Act.put, σa, σz, σs]
       refine Pq.one (i := 14) (by kernel_rfl) rfl ?_
       intro K hK
       rw [if_pos (by rfl)]
       go_simp
       refine hK _ _ hS6 (.inl (by simp)) (Pq.done (by kernel_rfl) ?_ _)
       clear hK K
       go_wp2_with fail
       go_roundw
       case rel => exact ⟨k + 1, _, _, rfl, by omega, by go_num, DL.out, DV.out, LB9.out, HR9.out⟩
       case measure => simp [intOf]; omega
     · have hkk : n3 = k := by omega
       subst hkk
       have hdr : D ++ LV.drop n3 = D := by rw [List.drop_eq_nil_of_le (by rw [← N3.out]; exact Nat.le_refl _), List.append_nil]
       obtain ⟨W1, hW1⟩ := ε ((s.waits.take 20).map cutW)
       have HW1 := η hW1
       have hdw : D.map Lay.v = W1 := by
        rw [HDV.out, hW1, List.take_of_length_le (by
         have := congrArg List.length HVV.out
         rw [List.length_map] at this
         rw [← this, ← N3.out]; exact Nat.le_refl _)]
       have LB10 : Hid (Lb w0 w wr q { s with ms := M1, ends := s.ends.take 30, waits := W1 } a' D LO LN) := η (by
        have := LB.out
        rw [hdr, hdw] at this
        exact this)
       have hd := LB10.out.head
       clear d0 d1 d2 d3 d4 d5 d6 d7 d8
       have hwl : W1.length = n3 := by rw [← hdw, List.length_map, HDL.out]
       unfold StV.cells at hd
       obtain ⟨d0, d1, d2, d3, d4, d5, d6, d7, d8⟩ := nine_of hd
       dsimp only at d0 d1 d2 d3 d4 d5 d6 d7 d8
       have fz : ∀ j, wr.frozen? ⟨q, j, none⟩ = false := fun j => unfrozen_of hd
       have hcap7 := (row_cap LB10.out.os).1
       have hcap8 := (row_cap LB10.out.ns).1
       have hlo := LB10.out.lens.2.1
       have hln := LB10.out.lens.2.2
       dsimp only at hlo hln
       rw [hlo] at hcap7
       rw [hln] at hcap8
       have hmm7 : 0 ≤ min (s.open_.length : Int) 20 ∧ min (s.open_.length : Int) 20 ≤ (a'.co : Int) := by omega
       have hmm8 : 0 ≤ min (s.noes.length : Int) 20 ∧ min (s.noes.length : Int) 20 ≤ (a'.cn : Int) := by omega
       have hk7 : (min (s.open_.length : Int) 20).toNat = (s.open_.take 20).length := min_take s.open_ 20
       have hk8 : (min (s.noes.length : Int) 20).toNat = (s.noes.take 20).length := min_take s.noes 20
       obtain ⟨n5, hn5⟩ := ε ((s.open_.take 20).length)
       obtain ⟨n6, hn6⟩ := ε ((s.noes.take 20).length)
       have N5 : Hid (n5 = (LO.take 20).length) := η (by rw [hn5, List.length_take, List.length_take, hlo])
       have N6 : Hid (n6 = (LN.take 20).length) := η (by rw [hn6, List.length_take, List.length_take, hln])
       rw [← hn5] at hk7
       rw [← hn6] at hk8
       obtain ⟨LP, hLP⟩ := ε (LO.take 20)
       obtain ⟨LQ, hLQ⟩ := ε (LN.take 20)
       have HLP := η hLP
       have HLQ := η hLQ
       have LB11 : Hid (Lb w0 w (((wr.setCell ⟨q, 7, none⟩ (.slice a'.o n5 a'.co)).setCell ⟨q, 8, none⟩ (.slice a'.n n6 a'.cn)).drew) q { s with ms := M1, ends := s.ends.take 30, waits := W1, open_ := s.open_.take 20, noes := s.noes.take 20 } a' D LP LQ) := η (by
        have h1 : Lb w0 w (wr.setCell ⟨q, 7, none⟩ (.slice a'.o n5 a'.co)) q { s with ms := M1, ends := s.ends.take 30, waits := W1, open_ := s.open_.take 20 } a' D LP LN := LB10.out.cut 7 _ _ D LP LN (by unfold StV.cells; rw [hn5]; rfl) ⟨_, Nat.le_refl _, by rw [List.take_length]⟩ ⟨_, Nat.le_refl _, by rw [List.take_length]⟩ ⟨_, Nat.le_refl _, by rw [List.take_length]⟩ ⟨min LO.length 20, Nat.min_le_left _ _, by rw [hLP]; exact take_minl _ _⟩ ⟨_, Nat.le_refl _, by rw [List.take_length]⟩ hdw (by rw [hLP, List.map_take, HV.out.2.1]) HV.out.2.2
        refine Lb.still (h1.cut 8 _ _ D LP LQ (by unfold StV.cells; rw [hn6]; rfl) ⟨_, Nat.le_refl _, by rw [List.take_length]⟩ ⟨_, Nat.le_refl _, by rw [List.take_length]⟩ ⟨_, Nat.le_refl _, by rw [List.take_length]⟩ ⟨_, Nat.le_refl _, by rw [List.take_length]⟩ ⟨min LN.length 20, Nat.min_le_left _ _, by rw [hLQ]; exact take_minl _ _⟩ hdw (by rw [hLP, List.map_take, HV.out.2.1]) (by rw [hLQ, List.map_take, HV.out.2.2])) (Turn.drew [] _))
       have HR11 : Hid ((((wr.setCell ⟨q, 7, none⟩ (.slice a'.o n5 a'.co)).setCell ⟨q, 8, none⟩ (.slice a'.n n6 a'.cn)).drew).heap[q + 1]? = some (.cells #[.int .i64 0, .int .i64 0, .int .i64 0, .int .i64 0, .slice none 0 0, .slice none 0 0, .slice none 0 0, .slice none 0 0, .slice none 0 0] 27)) := η ((Turn.drew [] _).heap ((Turn.setCell (l := [q]) _ (by simp) _).heap ((Turn.setCell (l := [q]) wr (by simp) _).heap HR.out)))
       have hvl5 : (s.open_.take 20).length = n5 := hn5.symm
       have hvl6 : (s.noes.take 20).length = n6 := hn6.symm
       have HX5 := η hvl5
       have HX6 := η hvl6
       have HWL := η hwl
       clear hd hcap7 hcap8 hlo hln hLP hLQ hn5 hn6 hdr hdw hW1 LB HR HDL HDV hvl5 hvl6 hwl hkn hk
       go_upto_region 15 with fail
       go_cut [] from 85 to 100 (fun wx => wx = (((wr.setCell ⟨q, 7, none⟩ (.slice a'.o n5 a'.co)).setCell ⟨q, 8, none⟩ (.slice a'.n n6 a'.cn)).drew))
       case first =>
        go_region
        go_wp2_with fail
        go_meet
        exact rfl
       subst hcut
       have LBs : Hid (Lb w0 w (((wr.setCell ⟨q, 7, none⟩ (.slice a'.o n5 a'.co)).setCell ⟨q, 8, none⟩ (.slice a'.n n6 a'.cn)).drew) q { s with ms := M1, ends := s.ends.take 30, waits := W1, open_ := (([] : List (Lay PendV)) ++ LP.drop 0).map Lay.v, noes := s.noes.take 20 } a' D ([] ++ LP.drop 0) LQ) := η (by
        have h2 := LB11.out
        have h3 := h2.vo
        rw [List.nil_append, List.drop_zero, h3]
        exact h2)
       have HVo : Hid (LP.map Lay.v = s.open_.take 20) := η LB11.out.vo
       have HVn : Hid (LQ.map Lay.v = s.noes.take 20) := η LB11.out.vn
       have HPo : Hid (∀ x ∈ LP, Il w0 x.ao x.c x.v.parts) := η (fun x hx => HP.out.2.1 x (by rw [HLP.out] at hx; exact List.mem_of_mem_take hx))
       have HPn : Hid (∀ x ∈ LQ, Il w0 x.ao x.c x.v.parts) := η (fun x hx => HP.out.2.2 x (by rw [HLQ.out] at hx; exact List.mem_of_mem_take hx))
       rw [← HLP.out] at N5
       rw [← HLQ.out] at N6
       have HRs := HR11
       have hd := LB11.out.head
       clear d0 d1 d2 d3 d4 d5 d6 d7 d8 fz hmm7 hmm8 hk7 hk8 LB11 HR11
       generalize (((wr.setCell ⟨q, 7, none⟩ (.slice a'.o n5 a'.co)).setCell ⟨q, 8, none⟩ (.slice a'.n n6 a'.cn)).drew) = y11 at *
       unfold StV.cells at hd
       obtain ⟨d0, d1, d2, d3, d4, d5, d6, d7, d8⟩ := nine_of hd
       dsimp only at d0 d1 d2 d3 d4 d5 d6 d7 d8
       rw [HX5.out] at d7
       have hn20 : n5 ≤ 20 := by rw [← HX5.out, List.length_take]; omega
       have hn21 : n6 ≤ 20 := by rw [← HX6.out, List.length_take]; omega
       clear hd
       go_upto_region 17 with fail
       clear d0 d1 d2 d3 d4 d5 d6 d7 d8
       go_loopw [5, 104] (fun v5 vi wx => ∃ (k : Nat) (u5 : Value) (P : List (Lay PendV)), u5 = v5 ∧ k ≤ n5 ∧ vi = .int .i64 (k : Int) ∧ P.length = k ∧ P.map Lay.v = ((s.open_.take 20).take k).map cutPd ∧ Lb w0 w wx q { s with ms := M1, ends := s.ends.take 30, waits := W1, open_ := (P ++ LP.drop k).map Lay.v, noes := s.noes.take 20 } a' D (P ++ LP.drop k) LQ ∧ wx.heap[q + 1]? = some (.cells #[.int .i64 0, .int .i64 0, .int .i64 0, .int .i64 0, .slice none 0 0, .slice none 0 0, .slice none 0 0, .slice none 0 0, .slice none 0 0] 27)) (fun _ vi _ => n5 - (intOf vi).toNat)
       case atStart => exact ⟨0, _, [], rfl, by omega, rfl, rfl, by simp, LBs.out, HRs.out⟩
       case round =>
        obtain ⟨k, u5, P, rfl, hk, rfl, hdl, hdv, hlb, hrr⟩ := hrel
        have LB := η hlb
        have HR := η hrr
        have HDL := η hdl
        have HDV := η hdv
        clear hlb hrr hdl hdv LBs HRs
        have hd := LB.out.head
        unfold StV.cells at hd
        obtain ⟨d0, d1, d2, d3, d4, d5, d6, d7, d8⟩ := nine_of hd
        dsimp only at d0 d1 d2 d3 d4 d5 d6 d7 d8
        have hlen : (P ++ LP.drop k).length = n5 := by rw [List.length_append, List.length_drop, HDL.out, ← N5.out]; omega
        rw [List.length_map, hlen] at d7
        by_cases hkn : k < n5
        · obtain ⟨x, hx⟩ : ∃ x, LP[k]? = some x := ⟨_, List.getElem?_eq_getElem (by rw [← N5.out]; exact hkn)⟩
          have hlx : (s.open_.take 20)[k]? = some x.v := by rw [← HVo.out, List.getElem?_map, hx]; rfl
          have hdx : (P ++ LP.drop k)[k]? = some x := by
           rw [List.getElem?_append_right (by rw [HDL.out]; exact Nat.le_refl _), HDL.out, Nat.sub_self, List.getElem?_drop, Nat.add_zero]
           exact hx
          have hrow := LB.out.os
          have htl : Tl 2 pendC wr a'.o a'.co (P ++ LP.drop k) := Tl.of_own (n := 2) (f := pendC) (fun _ => rfl) hrow
          rcases hrow.2 with ⟨e, h0⟩ | ⟨g, cap, cur, e, hlo, hg, hle, hmx, hsz, htk⟩
          · omega
          injection e with e1 _ e3
          have q1 : wr.cell? ⟨g, k * 2 + 1, none⟩ = some (.slice x.ao x.v.parts.length x.c) := by
           obtain ⟨g', off', e0, hat⟩ := htl.at hdx
           rw [e1] at e0
           injection e0 with e0
           injection e0 with e4 e5 _
           subst e4 e5
           have := hat 1 _ rfl
           rwa [Nat.zero_add] at this
          have hqg : q ≠ g := by
           intro e
           subst e
           rw [hd] at hg
           injection hg with hg
           injection hg with _ h2 _
           exact absurd h2 (by decide)
          have HE1 := η e1
          have HGG := η hg
          have HLO := η hlo
          have HROW : Hid (wr.ownsRow w.heap.size 65 2 (.slice (some ⟨g, 0, none⟩) (P ++ LP.drop k).length a'.co) (P ++ LP.drop k).length ((P ++ LP.drop k).flatMap pendC)) := η (by rw [← e1]; exact hrow)
          rw [e1] at d7
          have hb : 0 ≤ (k : Int) ∧ (k : Int) < (n5 : Int) := by omega
          have HX := η hx
          have HLX := η hlx
          have HDX := η hdx
          have hil := HPo.out x (List.mem_of_getElem? hx)
          have hpl := hil.len
          obtain ⟨hcp, hSr⟩ : x.v.parts.length ≤ x.c ∧ ∀ wx, Turn [] w0 wx → Sr wx x.ao x.c (x.v.parts.take 9) := by
           rcases hil with ⟨h1, h2, h3⟩ | ⟨A, h1, hle, _, hc, _⟩
           · exact ⟨by rw [h3]; exact Nat.zero_le _, fun wx _ => .inl ⟨h1, h2, by rw [h3]; rfl⟩⟩
           · refine ⟨by omega, fun wx tx => .inr ⟨A, h1, fun j hj => ?_⟩⟩
             rw [List.length_take] at hj
             have hcj := hc j (by omega)
             rw [show (x.v.parts.take 9).getD j 0 = x.v.parts.getD j 0 by simp only [List.getD, List.getElem?_take]; rw [if_pos (by omega)]]
             exact tx.cell hcj
          obtain ⟨np, hnp⟩ := ε x.v.parts.length
          have hk9 : (min (np : Int) 9).toNat = (x.v.parts.take 9).length := by rw [hnp]; exact min_take x.v.parts 9
          have hl9 : (x.v.parts.take 9).length ≤ 9 := by rw [List.length_take]; omega
          obtain ⟨n9, hn9⟩ := ε ((x.v.parts.take 9).length)
          rw [← hn9] at hk9
          rw [← hnp] at q1 hcp hpl
          have hmm9 : 0 ≤ min (np : Int) 9 ∧ min (np : Int) 9 ≤ (x.c : Int) := by omega
          have HSr := η hSr
          have HN9 := η hn9
          have HL9 := η hl9
          have TD := η (Turn.drew [] wr)
          clear d0 d1 d2 d3 d4 d5 d6 d8 hd hrow htl e1 e3 hg hlo hle hmx hsz htk hx hlx hdx hlen hil hSr hnp hn9 hl9 hcp
          go_upto_region 19 with fail
          refine Pq.start [21] (fun z => z.cell? ⟨q, 7, none⟩ = some (.slice (some ⟨g, 0, none⟩) n5 a'.co)) (fun z => z.cell? ⟨g, k * 2 + 1, none⟩ = some (.slice x.ao np x.c)) (by kernel_rfl) ?_
          have hS : wr.drew.cell? ⟨q, 7, none⟩ = some (.slice (some ⟨g, 0, none⟩) n5 a'.co) := d7
          have hT : wr.drew.cell? ⟨g, k * 2 + 1, none⟩ = some (.slice x.ao np x.c) := q1
          clear d7 q1
          refine Pq.tq 0 (some 107) hS ?_
          simp only [Act.put, σa, σz, σs]
          refine Pq.tq 1 (some 108) hS ?_
          simp only [Act.put, σa, σz, σs]
          refine Pq.tq 2 (some 109) hS ?_
          simp only [Act.put, σa, σz, σs]
          refine Pq.tq 3 (some 110) hS ?_
          simp only [Act.put, σa, σz, σs]
          refine Pq.tq 4 (some 111) hS ?_
          simp only [Act.put, σa, σz, σs]
          refine Pq.tq 5 (some 112) hS ?_
          simp only [Act.put, σa, σz, σs]
          refine Pq.tq 6 (some 113) hS ?_
          simp only [Act.put, σa, σz, σs]
          refine Pq.tq 7 (some 114) hS ?_
          simp only [Act.put, σa, σz, σs]
          refine Pq.tq2 8 (some 115) hS hT ?_
          simp only [Act.put, σa, σz, σs]
          refine Pq.tq 9 (some 116) hS ?_
          simp only [Act.put, σa, σz, σs]
          refine Pq.tq 10 (some 117) hS ?_
          simp only [Act.put, σa, σz, σs]
          refine Pq.tq 11 (some 118) hS ?_
          simp only [Act.put, σa, σz, σs]
          refine Pq.tq 12 (some 119) hS ?_
          simp only [Act.put, σa, σz, σs]
          refine Pq.tq 13 (some 120) hS ?_
          simp only [Act.put, σa, σz, σs]
          refine Pq.tq2 14 (some 121) hS hT ?_
          simp only [Act.put, σa, σz, σs]
          refine Pq.tq 15 (some 122) hS ?_
          simp only [Act.put, σa, σz, σs]
          refine Pq.tq 16 (some 123) hS ?_
          simp only [Act.put, σa, σz, σs]
          refine Pq.tq 17 (some 124) hS ?_
          simp only [Act.put, σa, σz, σs]
          refine Pq.one (i := 18) (by kernel_rfl) rfl ?_
          intro K hK
          refine step_append_sr rfl _ _ rfl rfl x.ao n9 x.c (x.v.parts.take 9) HN9.out rfl (HSr.out _ (HEL.out.trans (LB.out.base.trans TD.out))) (by have := HL9.out; omega) ?_
          intro v' x2 o2 t2
          rw [← HN9.out] at o2
          obtain ⟨ap, cp, hv⟩ := slice_form o2
          subst hv
          have S2 := t2.cell hS
          have hT2 := t2.cell hT
          refine hK _ _ S2 (.inr (fun hh => t2.cell hh)) ?_
          simp only [Act.put, List.setIfInBounds_toArray]
          clear hK K hS hT
          have hg2 := (TD.out.trans t2).heap HGG.out
          have hrow2 := ownsRow_turn HROW.out (TD.out.trans t2)
          have hst := (hrow2.stored (k * 2 + 1) (.slice ap n9 cp)).1
          have hfs := flat_set (n := 2) (f := pendC) (fun _ => rfl) (P ++ LP.drop k) k 1 x ⟨cutPd x.v, ap, cp⟩ (.slice ap n9 cp) HDX.out (by omega) (by rw [HN9.out]; rfl)
          rw [hfs] at hst
          have hset : (P ++ LP.drop k).set k (⟨cutPd x.v, ap, cp⟩ : Lay PendV) = ((P ++ [(⟨cutPd x.v, ap, cp⟩ : Lay PendV)]) ++ LP.drop (k + 1)) := by
           rw [drop_cons HX.out, List.set_append_right _ _ (by rw [HDL.out]; exact Nat.le_refl _), HDL.out, Nat.sub_self, List.set_cons_zero, List.append_assoc]
           rfl
          rw [hset] at hst
          have hll : (P ++ LP.drop k).length = ((P ++ [(⟨cutPd x.v, ap, cp⟩ : Lay PendV)]) ++ LP.drop (k + 1)).length := by rw [← hset, List.length_set]
          rw [hll] at hst
          have tg : Turn [g] x2 (x2.setCell ⟨g, k * 2 + 1, none⟩ (.slice ap n9 cp)) := Turn.setCell (l := [g]) x2 (by simp) _
          have hwsz := (LB.out.base.trans TD.out).size
          have o3 : x2.ownsRow w.heap.size 3 1 (.slice ap n9 cp) n9 (i64s (x.v.parts.take 9)) := ownsRow_base o2 (fun j hj => Nat.le_trans hwsz (ownsRow_lo o2 hj))
          have LB9 : Hid (Lb w0 w (x2.setCell ⟨g, k * 2 + 1, none⟩ (.slice ap n9 cp)) q { s with ms := M1, ends := s.ends.take 30, waits := W1, open_ := ((P ++ [(⟨cutPd x.v, ap, cp⟩ : Lay PendV)]) ++ LP.drop (k + 1)).map Lay.v, noes := s.noes.take 20 } a' D ((P ++ [(⟨cutPd x.v, ap, cp⟩ : Lay PendV)]) ++ LP.drop (k + 1)) LQ) := η (by
           refine (LB.out.still (TD.out.trans t2)).inOs hll.symm tg hg2 HLO.out HE1.out (by rw [HE1.out]; exact hst) (fun z hz => ?_)
           rw [← hset] at hz
           rcases List.mem_or_eq_of_mem_set hz with hz | hz
           · exact .inl hz
           · subst hz
             refine .inr (ownsRow_keep ?_ tg (lb_typed hg2) (by decide))
             have := o3
             rw [HN9.out] at this
             exact this)
          have HR9 : Hid ((x2.setCell ⟨g, k * 2 + 1, none⟩ (.slice ap n9 cp)).heap[q + 1]? = some (.cells #[.int .i64 0, .int .i64 0, .int .i64 0, .int .i64 0, .slice none 0 0, .slice none 0 0, .slice none 0 0, .slice none 0 0, .slice none 0 0] 27)) := η (heap_keep ((TD.out.trans t2).heap HR.out) tg (lb_typed hg2) (by decide))
          have DV : Hid ((P ++ [(⟨cutPd x.v, ap, cp⟩ : Lay PendV)]).map Lay.v = ((s.open_.take 20).take (k + 1)).map cutPd) := η (by rw [List.map_append, HDV.out, map_take_step HLX.out]; rfl)
          have DL : Hid ((P ++ [(⟨cutPd x.v, ap, cp⟩ : Lay PendV)]).length = k + 1) := η (by rw [List.length_append, HDL.out]; rfl)
          have hfr : ∀ j, x2.frozen? ⟨g, j, none⟩ = false := fun j => unfrozen_of hg2
          have hS6 := tg.cell S2 (by simpa using hqg)
          have hS := S2
          clear o2 t2 hg2 hrow2 hst hfs hset hll tg hwsz o3 LB HR HDV HDL HX HLX HDX HROW hk9 hmm9
          refine Pq.tq 19 (some 126) hS ?_
          simp only [Act.put]
          refine Pq.tq 20 (some 127) hS ?_
          simp only [Act.put]
          refine Pq.one (i := 21) (by kernel_rfl) rfl ?_
          intro K hK
          rw [if_pos (by rfl)]
          go_simp
          refine hK _ _ hS6 (.inl (by simp)) (Pq.done (by kernel_rfl) ?_ _)
          clear hK K
          go_wp2_with fail
          go_roundw
          case rel => exact ⟨k + 1, _, _, rfl, by omega, by go_num, DL.out, DV.out, LB9.out, HR9.out⟩
          case measure => simp [intOf]; omega
        · have hkk : n5 = k := by omega
          subst hkk
          have hdr : P ++ LP.drop n5 = P := by rw [List.drop_eq_nil_of_le (by rw [← N5.out]; exact Nat.le_refl _), List.append_nil]
          obtain ⟨O1, hO1⟩ := ε ((s.open_.take 20).map cutPd)
          have HO1 := η hO1
          have hdw : P.map Lay.v = O1 := by rw [HDV.out, hO1, List.take_of_length_le (by rw [HX5.out]; exact Nat.le_refl _)]
          obtain ⟨PO, hPO⟩ := ε P
          have LBs : Hid (Lb w0 w wr q { s with ms := M1, ends := s.ends.take 30, waits := W1, open_ := O1, noes := (([] : List (Lay PendV)) ++ LQ.drop 0).map Lay.v } a' D PO ([] ++ LQ.drop 0)) := η (by
           have := LB.out
           rw [hdr, hdw, ← HVn.out] at this
           rw [hPO]
           exact this)
          have HRs := HR
          have hd := LBs.out.head
          clear d0 d1 d2 d3 d4 d5 d6 d7 d8
          unfold StV.cells at hd
          obtain ⟨d0, d1, d2, d3, d4, d5, d6, d7, d8⟩ := nine_of hd
          dsimp only at d0 d1 d2 d3 d4 d5 d6 d7 d8
          rw [List.nil_append, List.drop_zero, HVn.out, HX6.out] at d8
          clear hd hdr hdw hO1 hPO LB HR HDL HDV hkn hk
          go_upto_region 22 with fail
          clear d0 d1 d2 d3 d4 d5 d6 d7 d8
          go_loopw [6, 132] (fun v5 vi wx => ∃ (k : Nat) (u5 : Value) (P : List (Lay PendV)), u5 = v5 ∧ k ≤ n6 ∧ vi = .int .i64 (k : Int) ∧ P.length = k ∧ P.map Lay.v = ((s.noes.take 20).take k).map cutPd ∧ Lb w0 w wx q { s with ms := M1, ends := s.ends.take 30, waits := W1, open_ := O1, noes := (P ++ LQ.drop k).map Lay.v } a' D PO (P ++ LQ.drop k) ∧ wx.heap[q + 1]? = some (.cells #[.int .i64 0, .int .i64 0, .int .i64 0, .int .i64 0, .slice none 0 0, .slice none 0 0, .slice none 0 0, .slice none 0 0, .slice none 0 0] 27)) (fun _ vi _ => n6 - (intOf vi).toNat)
          case atStart => exact ⟨0, _, [], rfl, by omega, rfl, rfl, by simp, LBs.out, HRs.out⟩
          case round =>
           obtain ⟨k, u5, P, rfl, hk, rfl, hdl, hdv, hlb, hrr⟩ := hrel
           have LB := η hlb
           have HR := η hrr
           have HDL := η hdl
           have HDV := η hdv
           clear hlb hrr hdl hdv LBs HRs
           have hd := LB.out.head
           unfold StV.cells at hd
           obtain ⟨d0, d1, d2, d3, d4, d5, d6, d7, d8⟩ := nine_of hd
           dsimp only at d0 d1 d2 d3 d4 d5 d6 d7 d8
           have hlen : (P ++ LQ.drop k).length = n6 := by rw [List.length_append, List.length_drop, HDL.out, ← N6.out]; omega
           rw [List.length_map, hlen] at d8
           by_cases hkn : k < n6
           · obtain ⟨x, hx⟩ : ∃ x, LQ[k]? = some x := ⟨_, List.getElem?_eq_getElem (by rw [← N6.out]; exact hkn)⟩
             have hlx : (s.noes.take 20)[k]? = some x.v := by rw [← HVn.out, List.getElem?_map, hx]; rfl
             have hdx : (P ++ LQ.drop k)[k]? = some x := by
              rw [List.getElem?_append_right (by rw [HDL.out]; exact Nat.le_refl _), HDL.out, Nat.sub_self, List.getElem?_drop, Nat.add_zero]
              exact hx
             have hrow := LB.out.ns
             have htl : Tl 2 pendC wr a'.n a'.cn (P ++ LQ.drop k) := Tl.of_own (n := 2) (f := pendC) (fun _ => rfl) hrow
             rcases hrow.2 with ⟨e, h0⟩ | ⟨g, cap, cur, e, hlo, hg, hle, hmx, hsz, htk⟩
             · omega
             injection e with e1 _ e3
             have q1 : wr.cell? ⟨g, k * 2 + 1, none⟩ = some (.slice x.ao x.v.parts.length x.c) := by
              obtain ⟨g', off', e0, hat⟩ := htl.at hdx
              rw [e1] at e0
              injection e0 with e0
              injection e0 with e4 e5 _
              subst e4 e5
              have := hat 1 _ rfl
              rwa [Nat.zero_add] at this
             have hqg : q ≠ g := by
              intro e
              subst e
              rw [hd] at hg
              injection hg with hg
              injection hg with _ h2 _
              exact absurd h2 (by decide)
             have HE1 := η e1
             have HGG := η hg
             have HLO := η hlo
             have HROW : Hid (wr.ownsRow w.heap.size 65 2 (.slice (some ⟨g, 0, none⟩) (P ++ LQ.drop k).length a'.cn) (P ++ LQ.drop k).length ((P ++ LQ.drop k).flatMap pendC)) := η (by rw [← e1]; exact hrow)
             rw [e1] at d8
             have hb : 0 ≤ (k : Int) ∧ (k : Int) < (n6 : Int) := by omega
             have HX := η hx
             have HLX := η hlx
             have HDX := η hdx
             have hil := HPn.out x (List.mem_of_getElem? hx)
             have hpl := hil.len
             obtain ⟨hcp, hSr⟩ : x.v.parts.length ≤ x.c ∧ ∀ wx, Turn [] w0 wx → Sr wx x.ao x.c (x.v.parts.take 9) := by
              rcases hil with ⟨h1, h2, h3⟩ | ⟨A, h1, hle, _, hc, _⟩
              · exact ⟨by rw [h3]; exact Nat.zero_le _, fun wx _ => .inl ⟨h1, h2, by rw [h3]; rfl⟩⟩
              · refine ⟨by omega, fun wx tx => .inr ⟨A, h1, fun j hj => ?_⟩⟩
                rw [List.length_take] at hj
                have hcj := hc j (by omega)
                rw [show (x.v.parts.take 9).getD j 0 = x.v.parts.getD j 0 by simp only [List.getD, List.getElem?_take]; rw [if_pos (by omega)]]
                exact tx.cell hcj
             obtain ⟨np, hnp⟩ := ε x.v.parts.length
             have hk9 : (min (np : Int) 9).toNat = (x.v.parts.take 9).length := by rw [hnp]; exact min_take x.v.parts 9
             have hl9 : (x.v.parts.take 9).length ≤ 9 := by rw [List.length_take]; omega
             obtain ⟨n9, hn9⟩ := ε ((x.v.parts.take 9).length)
             rw [← hn9] at hk9
             rw [← hnp] at q1 hcp hpl
             have hmm9 : 0 ≤ min (np : Int) 9 ∧ min (np : Int) 9 ≤ (x.c : Int) := by omega
             have HSr := η hSr
             have HN9 := η hn9
             have HL9 := η hl9
             have TD := η (Turn.drew [] wr)
             clear d0 d1 d2 d3 d4 d5 d6 d7 hd hrow htl e1 e3 hg hlo hle hmx hsz htk hx hlx hdx hlen hil hSr hnp hn9 hl9 hcp
             go_upto_region 24 with fail
             refine Pq.start [21] (fun z => z.cell? ⟨q, 8, none⟩ = some (.slice (some ⟨g, 0, none⟩) n6 a'.cn)) (fun z => z.cell? ⟨g, k * 2 + 1, none⟩ = some (.slice x.ao np x.c)) (by kernel_rfl) ?_
             have hS : wr.drew.cell? ⟨q, 8, none⟩ = some (.slice (some ⟨g, 0, none⟩) n6 a'.cn) := d8
             have hT : wr.drew.cell? ⟨g, k * 2 + 1, none⟩ = some (.slice x.ao np x.c) := q1
             clear d8 q1
             refine Pq.tq 0 (some 135) hS ?_
             simp only [Act.put, σa, σz, σs]
             refine Pq.tq 1 (some 136) hS ?_
             simp only [Act.put, σa, σz, σs]
             refine Pq.tq 2 (some 137) hS ?_
             simp only [Act.put, σa, σz, σs]
             refine Pq.tq 3 (some 138) hS ?_
             simp only [Act.put, σa, σz, σs]
             refine Pq.tq 4 (some 139) hS ?_
             simp only [Act.put, σa, σz, σs]
             refine Pq.tq 5 (some 140) hS ?_
             simp only [Act.put, σa, σz, σs]
             refine Pq.tq 6 (some 141) hS ?_
             simp only [Act.put, σa, σz, σs]
             refine Pq.tq 7 (some 142) hS ?_
             simp only [Act.put, σa, σz, σs]
             refine Pq.tq2 8 (some 143) hS hT ?_
             simp only [Act.put, σa, σz, σs]
             refine Pq.tq 9 (some 144) hS ?_
             simp only [Act.put, σa, σz, σs]
             refine Pq.tq 10 (some 145) hS ?_
             simp only [Act.put, σa, σz, σs]
             refine Pq.tq 11 (some 146) hS ?_
             simp only [Act.put, σa, σz, σs]
             refine Pq.tq 12 (some 147) hS ?_
             simp only [Act.put, σa, σz, σs]
             refine Pq.tq 13 (some 148) hS ?_
             simp only [Act.put, σa, σz, σs]
             refine Pq.tq2 14 (some 149) hS hT ?_
             simp only [Act.put, σa, σz, σs]
             refine Pq.tq 15 (some 150) hS ?_
             simp only [Act.put, σa, σz, σs]
             refine Pq.tq 16 (some 151) hS ?_
             simp only [Act.put, σa, σz, σs]
             refine Pq.tq 17 (some 152) hS ?_
             simp only [Act.put, σa, σz, σs]
             refine Pq.one (i := 18) (by kernel_rfl) rfl ?_
             intro K hK
             refine step_append_sr rfl _ _ rfl rfl x.ao n9 x.c (x.v.parts.take 9) HN9.out rfl (HSr.out _ (HEL.out.trans (LB.out.base.trans TD.out))) (by have := HL9.out; omega) ?_
             intro v' x2 o2 t2
             rw [← HN9.out] at o2
             obtain ⟨ap, cp, hv⟩ := slice_form o2
             subst hv
             have S2 := t2.cell hS
             have hT2 := t2.cell hT
             refine hK _ _ S2 (.inr (fun hh => t2.cell hh)) ?_
             simp only [Act.put, List.setIfInBounds_toArray]
             clear hK K hS hT
             have hg2 := (TD.out.trans t2).heap HGG.out
             have hrow2 := ownsRow_turn HROW.out (TD.out.trans t2)
             have hst := (hrow2.stored (k * 2 + 1) (.slice ap n9 cp)).1
             have hfs := flat_set (n := 2) (f := pendC) (fun _ => rfl) (P ++ LQ.drop k) k 1 x ⟨cutPd x.v, ap, cp⟩ (.slice ap n9 cp) HDX.out (by omega) (by rw [HN9.out]; rfl)
             rw [hfs] at hst
             have hset : (P ++ LQ.drop k).set k (⟨cutPd x.v, ap, cp⟩ : Lay PendV) = ((P ++ [(⟨cutPd x.v, ap, cp⟩ : Lay PendV)]) ++ LQ.drop (k + 1)) := by
              rw [drop_cons HX.out, List.set_append_right _ _ (by rw [HDL.out]; exact Nat.le_refl _), HDL.out, Nat.sub_self, List.set_cons_zero, List.append_assoc]
              rfl
             rw [hset] at hst
             have hll : (P ++ LQ.drop k).length = ((P ++ [(⟨cutPd x.v, ap, cp⟩ : Lay PendV)]) ++ LQ.drop (k + 1)).length := by rw [← hset, List.length_set]
             rw [hll] at hst
             have tg : Turn [g] x2 (x2.setCell ⟨g, k * 2 + 1, none⟩ (.slice ap n9 cp)) := Turn.setCell (l := [g]) x2 (by simp) _
             have hwsz := (LB.out.base.trans TD.out).size
             have o3 : x2.ownsRow w.heap.size 3 1 (.slice ap n9 cp) n9 (i64s (x.v.parts.take 9)) := ownsRow_base o2 (fun j hj => Nat.le_trans hwsz (ownsRow_lo o2 hj))
             have LB9 : Hid (Lb w0 w (x2.setCell ⟨g, k * 2 + 1, none⟩ (.slice ap n9 cp)) q { s with ms := M1, ends := s.ends.take 30, waits := W1, open_ := O1, noes := ((P ++ [(⟨cutPd x.v, ap, cp⟩ : Lay PendV)]) ++ LQ.drop (k + 1)).map Lay.v } a' D PO ((P ++ [(⟨cutPd x.v, ap, cp⟩ : Lay PendV)]) ++ LQ.drop (k + 1))) := η (by
              refine (LB.out.still (TD.out.trans t2)).inNs hll.symm tg hg2 HLO.out HE1.out (by rw [HE1.out]; exact hst) (fun z hz => ?_)
              rw [← hset] at hz
              rcases List.mem_or_eq_of_mem_set hz with hz | hz
              · exact .inl hz
              · subst hz
                refine .inr (ownsRow_keep ?_ tg (lb_typed hg2) (by decide))
                have := o3
                rw [HN9.out] at this
                exact this)
             have HR9 : Hid ((x2.setCell ⟨g, k * 2 + 1, none⟩ (.slice ap n9 cp)).heap[q + 1]? = some (.cells #[.int .i64 0, .int .i64 0, .int .i64 0, .int .i64 0, .slice none 0 0, .slice none 0 0, .slice none 0 0, .slice none 0 0, .slice none 0 0] 27)) := η (heap_keep ((TD.out.trans t2).heap HR.out) tg (lb_typed hg2) (by decide))
             have DV : Hid ((P ++ [(⟨cutPd x.v, ap, cp⟩ : Lay PendV)]).map Lay.v = ((s.noes.take 20).take (k + 1)).map cutPd) := η (by rw [List.map_append, HDV.out, map_take_step HLX.out]; rfl)
             have DL : Hid ((P ++ [(⟨cutPd x.v, ap, cp⟩ : Lay PendV)]).length = k + 1) := η (by rw [List.length_append, HDL.out]; rfl)
             have hfr : ∀ j, x2.frozen? ⟨g, j, none⟩ = false := fun j => unfrozen_of hg2
             have hS6 := tg.cell S2 (by simpa using hqg)
             have hS := S2
             clear o2 t2 hg2 hrow2 hst hfs hset hll tg hwsz o3 LB HR HDV HDL HX HLX HDX HROW hk9 hmm9
             refine Pq.tq 19 (some 154) hS ?_
             simp only [Act.put]
             refine Pq.tq 20 (some 155) hS ?_
             simp only [Act.put]
             refine Pq.one (i := 21) (by kernel_rfl) rfl ?_
             intro K hK
             rw [if_pos (by rfl)]
             go_simp
             refine hK _ _ hS6 (.inl (by simp)) (Pq.done (by kernel_rfl) ?_ _)
             clear hK K
             go_wp2_with fail
             go_roundw
             case rel => exact ⟨k + 1, _, _, rfl, by omega, by go_num, DL.out, DV.out, LB9.out, HR9.out⟩
             case measure => simp [intOf]; omega
           · have hkk : n6 = k := by omega
             subst hkk
             have hdr : P ++ LQ.drop n6 = P := by rw [List.drop_eq_nil_of_le (by rw [← N6.out]; exact Nat.le_refl _), List.append_nil]
             have hdw : P.map Lay.v = (s.noes.take 20).map cutPd := by rw [HDV.out, List.take_of_length_le (by rw [HX6.out]; exact Nat.le_refl _)]
             have LBz : Hid (Lb w0 w wr q (cutS s) a' D PO P) := η (by
              have := LB.out
              rw [hdr, hdw, HM1.out, HW1.out, HO1.out] at this
              exact this)
             have hd := LBz.out.head
             have HRz := HR
             clear d0 d1 d2 d3 d4 d5 d6 d7 d8 hdr hdw LB HR HDL HDV hkn hk
             unfold StV.cells at hd
             obtain ⟨d0, d1, d2, d3, d4, d5, d6, d7, d8⟩ := nine_of hd
             obtain ⟨z0, z1, z2, z3, z4, z5, z6, z7, z8⟩ := nine_of HRz.out
             have fr : ∀ j, wr.frozen? ⟨q + 1, j, none⟩ = false := fun j => unfrozen_of HRz.out
             have NT := η (nine_turn wr (q + 1) (.int .i64 (cutS s).broker) (.int .i64 (cutS s).nextId) (.int .i64 (cutS s).nextSeq) (.int .i64 (cutS s).tx) (.slice a'.m (cutS s).ms.length a'.cm) (.slice a'.w (cutS s).waits.length a'.cw) (.slice a'.e (cutS s).ends.length a'.ce) (.slice a'.o (cutS s).open_.length a'.co) (.slice a'.n (cutS s).noes.length a'.cn))
             have HFZ := η (nine_heapC HRz.out (.int .i64 (cutS s).broker) (.int .i64 (cutS s).nextId) (.int .i64 (cutS s).nextSeq) (.int .i64 (cutS s).tx) (.slice a'.m (cutS s).ms.length a'.cm) (.slice a'.w (cutS s).waits.length a'.cw) (.slice a'.e (cutS s).ends.length a'.ce) (.slice a'.o (cutS s).open_.length a'.co) (.slice a'.n (cutS s).noes.length a'.cn))
             have LBf : Hid (Lb w0 w (nine wr (q + 1) (.int .i64 (cutS s).broker) (.int .i64 (cutS s).nextId) (.int .i64 (cutS s).nextSeq) (.int .i64 (cutS s).tx) (.slice a'.m (cutS s).ms.length a'.cm) (.slice a'.w (cutS s).waits.length a'.cw) (.slice a'.e (cutS s).ends.length a'.ce) (.slice a'.o (cutS s).open_.length a'.co) (.slice a'.n (cutS s).noes.length a'.cn)) q (cutS s) a' D PO P) := η (LBz.out.past NT.out HRz.out (by rw [HQD.out]; omega) (by omega))
             clear hd LBz
             go_wp2_with fail
             refine bodyPost_ret_by (results_cell_row rfl _ _ (q + 1) 27 _ (0, 0) _ rfl HFZ.out Tryz.underlying27 rfl (by kernel_rfl)) rfl ?_
             exact ⟨q, a', rfl, D, PO, P, LBf.out⟩
end Go.Proofs.YtlmefpanoimkcaaGreat
