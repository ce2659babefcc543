/-
  order.Counts: how many of a queue's messages are free, held and dead.
-/
import Derived.Test.YtjhlfjgfohoflaaGreatPkAW
import Derived.OwnWalk
import Derived.Test.YtjhlfjgfohoflaaGreatPkAA
set_option maxHeartbeats 8000000
set_option maxRecDepth 100000
namespace Go.Proofs.YtjhlfjgfohoflaaGreat
open Go.RowKit Go.Proofs.YtjhlfjgfohoflaaGreat.V
def cnt (p : MsgV → Bool) (l : List MsgV) : Nat := (l.filter p).length
def pH (q : ByteArray) (x : MsgV) : Bool := decide (x.queue = q) && !decide (x.by_ = 0)
def pD (q : ByteArray) (x : MsgV) : Bool := decide (x.queue = q) && (decide (x.by_ = 0) && deadB x)
theorem cnt_next {p : MsgV → Bool} {l : List MsgV} {k : Nat} {x : MsgV} (h : l[k]? = some x) : cnt p (l.take (k + 1)) = cnt p (l.take k) + if p x = true then 1 else 0 := by
 unfold cnt
 rw [List.take_add_one, h, List.filter_append, List.length_append]
 cases e : p x <;> simp [e]
theorem cnt_le (p : MsgV → Bool) (l : List MsgV) (k : Nat) : cnt p (l.take k) ≤ k := by
 unfold cnt
 have h1 := List.length_filter_le p (l.take k)
 have h2 := List.length_take_le k l
 omega
theorem counts_calls {w : World} {a : Ads} {s : StV} (h : StIs w a s) (q : ByteArray) :
  Calls Tryz.prog 37 #[.agg (s.cells a), .string q] w fun e w' => e = .returned (.tuple #[.int .i64 (cnt (freeB q) s.ms : Int), .int .i64 (cnt (pH q) s.ms : Int), .int .i64 (cnt (pD q) s.ms : Int)]) ∧ Turn [] w w' := by
 have HMS := η h.ms
 have hlen := h.ms.len
 obtain ⟨n, hnn⟩ : ∃ n, n = s.ms.length := ⟨_, rfl⟩
 have HN := η hnn
 have T0 := η (Turn.alloc [] w (.cells (s.cells a) 27))
 have BX := η (fun wx (t : Turn [] (w.alloc (.cells (s.cells a) 27)) wx) => s.boxed a t)
 have HHE := η held_calls
 have HDE := η dead_calls
 unfold StV.cells at *
 rw [← hnn] at BX T0 hlen ⊢
 clear hnn h
 obtain ⟨b0, b1, b2, b3, b4, b5, b6, b7, b8⟩ := BX.out _ (Turn.refl [] _)
 go_enter Tryz.func37, Tryz.ntmps37
 go_wp2_with fail
 clear b0 b1 b2 b3 b4 b5 b6 b7 b8 BX
 go_loopw [15, 7, 8, 9] (fun vi v7 v8 v9 wx => ∃ k : Nat, k ≤ n ∧ vi = .int .i64 (k : Int) ∧ v7 = .int .i64 (cnt (freeB q) (s.ms.take k) : Int) ∧ v8 = .int .i64 (cnt (pH q) (s.ms.take k) : Int) ∧ v9 = .int .i64 (cnt (pD q) (s.ms.take k) : Int) ∧ Turn [] w wx) (fun vi _ _ _ _ => n - (intOf vi).toNat)
 case atStart => exact ⟨0, by omega, rfl, rfl, rfl, rfl, T0.out⟩
 case round =>
  clear T0
  obtain ⟨k, hk, rfl, rfl, rfl, rfl, hnx⟩ := hrel
  have HX := η hnx
  clear hnx
  by_cases hkn : k < n
  · have hkl : k < s.ms.length := by rw [← HN.out]; exact hkn
    obtain ⟨x, hx⟩ : ∃ x, s.ms[k]? = some x := ⟨_, List.getElem?_eq_getElem hkl⟩
    obtain ⟨b, off, hae, hat⟩ := (HMS.out.still HX.out).at hx
    have E7 := cnt_next (p := freeB q) hx
    have E8 := cnt_next (p := pH q) hx
    have E9 := cnt_next (p := pD q) hx
    have l7 := cnt_le (freeB q) s.ms k
    have l8 := cnt_le (pH q) s.ms k
    have l9 := cnt_le (pD q) s.ms k
    have a0 : a.m = some ⟨b, off, none⟩ := hae
    have q0 := hat 0 (.int .i64 x.id) rfl
    have q1 := hat 1 (.string x.queue) rfl
    have q2 := hat 2 (.string x.body) rfl
    have q3 := hat 3 (.int .i64 x.seq) rfl
    have q4 := hat 4 (.int .i64 x.count) rfl
    have q5 := hat 5 (.int .i64 x.by_) rfl
    rw [Nat.add_zero] at q0
    have CH := η (HHE.out x)
    have CD := η (HDE.out x)
    have P7 : freeB q x = (decide (x.queue = q) && (decide (x.by_ = 0) && !deadB x)) := rfl
    have P8 : pH q x = (decide (x.queue = q) && !decide (x.by_ = 0)) := rfl
    have P9 : pD q x = (decide (x.queue = q) && (decide (x.by_ = 0) && deadB x)) := rfl
    rw [P7] at E7
    rw [P8] at E8
    rw [P9] at E9
    clear P7 P8 P9
    obtain ⟨rb, hrb⟩ : ∃ r, r = decide (x.by_ = 0) := ⟨_, rfl⟩
    obtain ⟨rd, hrd⟩ : ∃ r, r = deadB x := ⟨_, rfl⟩
    rw [← hrb] at CH E7 E8 E9
    rw [← hrd] at CD E7 E9
    obtain ⟨c7, h7⟩ : ∃ c, c = cnt (freeB q) (s.ms.take k) := ⟨_, rfl⟩
    obtain ⟨c8, h8⟩ : ∃ c, c = cnt (pH q) (s.ms.take k) := ⟨_, rfl⟩
    obtain ⟨c9, h9⟩ : ∃ c, c = cnt (pD q) (s.ms.take k) := ⟨_, rfl⟩
    rw [← h7] at E7 l7 ⊢
    rw [← h8] at E8 l8 ⊢
    rw [← h9] at E9 l9 ⊢
    have E7 := η E7
    have E8 := η E8
    have E9 := η E9
    have hb2 : 0 ≤ (k : Int) ∧ (k : Int) < (n : Int) := by omega
    have TB := η (Turn.alloc [] wr (.cells #[.int .i64 x.id, .string x.queue, .string x.body, .int .i64 x.seq, .int .i64 x.count, .int .i64 x.by_] 49))
    have NB := η (HX.out.trans TB.out (by simp))
    have XB : Hid (∀ wy, Turn [] (wr.alloc (.cells #[.int .i64 x.id, .string x.queue, .string x.body, .int .i64 x.seq, .int .i64 x.count, .int .i64 x.by_] 49)) wy → wy.heap[wr.heap.size]? = some (.cells (msgC x).toArray 49)) := η (fun wy ty => ty.heap (heap_alloc_new wr _) (by simp))
    rw [a0]
    obtain ⟨i1, qu, bd, sq, cn, by1⟩ := x
    dsimp only at q0 q1 q2 q3 q4 q5 E7 E8 E9 NB XB
    unfold msgC at CH CD
    dsimp only at CH CD
    clear hat hae hx hrb hrd a0 h7 h8 h9 TB
    by_cases hq : qu = q
    case neg =>
     have hne : (qu.toList != q.toList) = true := by simpa using txt_ne hq
     have hne2 := txt_ne hq
     have F7 : Hid (cnt (freeB q) (s.ms.take (k + 1)) = c7) := η (by rw [E7.out, decide_eq_false hq]; rfl)
     have F8 : Hid (cnt (pH q) (s.ms.take (k + 1)) = c8) := η (by rw [E8.out, decide_eq_false hq]; rfl)
     have F9 : Hid (cnt (pD q) (s.ms.take (k + 1)) = c9) := η (by rw [E9.out, decide_eq_false hq]; rfl)
     clear E7 E8 E9 CH CD hq
     go_wp2_with fail
     go_roundw
     case rel => exact ⟨k + 1, by omega, by go_num, by rw [F7.out], by rw [F8.out], by rw [F9.out], NB.out⟩
     case measure => simp [intOf]; omega
    case pos =>
     subst hq
     have hde : decide (qu = qu) = true := decide_eq_true rfl
     have E7 : Hid (cnt (freeB qu) (s.ms.take (k + 1)) = c7 + if (rb && !rd) = true then 1 else 0) := η (by rw [E7.out, hde]; rfl)
     have E8 : Hid (cnt (pH qu) (s.ms.take (k + 1)) = c8 + if (!rb) = true then 1 else 0) := η (by rw [E8.out, hde]; rfl)
     have E9 : Hid (cnt (pD qu) (s.ms.take (k + 1)) = c9 + if (rb && rd) = true then 1 else 0) := η (by rw [E9.out, hde]; rfl)
     clear hde
     go_wp2_with fail
     refine (CH.out _).mono ?_
     rintro e x1 ⟨rfl, t1⟩
     have U1 := η t1
     have N1 := η (NB.out.trans t1 (by simp))
     clear t1 CH NB q0 q1 q2 q3 q4 q5
     have XB1 : Hid (∀ wy, Turn [] x1 wy → wy.heap[wr.heap.size]? = some (.cells (msgC ⟨i1, qu, bd, sq, cn, by1⟩).toArray 49)) := η (fun wy ty => XB.out wy (U1.out.trans ty (by simp)))
     clear XB U1
     cases rb with
     | false =>
      have F7 : Hid (cnt (freeB qu) (s.ms.take (k + 1)) = c7) := η (by rw [E7.out]; rfl)
      have F8 : Hid (cnt (pH qu) (s.ms.take (k + 1)) = c8 + 1) := η (by rw [E8.out]; rfl)
      have F9 : Hid (cnt (pD qu) (s.ms.take (k + 1)) = c9) := η (by rw [E9.out]; rfl)
      clear E7 E8 E9 CD XB1
      go_wp2_with fail
      go_roundw
      case rel => exact ⟨k + 1, by omega, by go_num, by rw [F7.out], by rw [F8.out]; go_num, by rw [F9.out], N1.out⟩
      case measure => simp [intOf]; omega
     | true =>
      obtain ⟨m0, m1, m2, m3, m4, m5⟩ := six_ofA (XB1.out _ (Turn.refl _ _))
      go_wp2_with fail
      refine (CD.out _).mono ?_
      rintro e x2 ⟨rfl, t2⟩
      have N2 := η (N1.out.trans t2 (by simp))
      clear t2 CD N1 XB1 m0 m1 m2 m3 m4 m5
      cases rd with
      | true =>
       have F7 : Hid (cnt (freeB qu) (s.ms.take (k + 1)) = c7) := η (by rw [E7.out]; rfl)
       have F8 : Hid (cnt (pH qu) (s.ms.take (k + 1)) = c8) := η (by rw [E8.out]; rfl)
       have F9 : Hid (cnt (pD qu) (s.ms.take (k + 1)) = c9 + 1) := η (by rw [E9.out]; rfl)
       clear E7 E8 E9
       go_wp2_with fail
       go_roundw
       case rel => exact ⟨k + 1, by omega, by go_num, by rw [F7.out], by rw [F8.out], by rw [F9.out]; go_num, N2.out⟩
       case measure => simp [intOf]; omega
      | false =>
       have F7 : Hid (cnt (freeB qu) (s.ms.take (k + 1)) = c7 + 1) := η (by rw [E7.out]; rfl)
       have F8 : Hid (cnt (pH qu) (s.ms.take (k + 1)) = c8) := η (by rw [E8.out]; rfl)
       have F9 : Hid (cnt (pD qu) (s.ms.take (k + 1)) = c9) := η (by rw [E9.out]; rfl)
       clear E7 E8 E9
       go_wp2_with fail
       go_roundw
       case rel => exact ⟨k + 1, by omega, by go_num, by rw [F7.out]; go_num, by rw [F8.out], by rw [F9.out], N2.out⟩
       case measure => simp [intOf]; omega
  · have hkk : k = n := by omega
    subst hkk
    have HTK : Hid (s.ms.take k = s.ms) := η (List.take_of_length_le (by rw [← HN.out]; exact Nat.le_refl _))
    rw [HTK.out]
    have hb2 : ¬ ((k : Int) < (k : Int)) := by omega
    go_wp2_with fail
    refine bodyPost_ret_by (results_tmp3 rfl _ _ _) rfl ?_
    exact ⟨rfl, HX.out⟩
end Go.Proofs.YtjhlfjgfohoflaaGreat
