/-
  The walk of the law SegFrom.
-/
import Derived.Test.YtjdpglmphacfjaaGreatDoorBegun4
import Derived.Test.YtjdpglmphacfjaaGreatDoorSegForget
namespace Go.Proofs.YtjdpglmphacfjaaGreatDoor
open Go.RowKit

def i64l (l : List Nat) : List Value := l.map fun (n : Nat) => Value.int .i64 (n : Int)

theorem i64l_length (l : List Nat) : (i64l l).length = l.length := by simp [i64l]

theorem Tryz.introw : (Tryz.prog.info? 3).map (fun i => (i.zero, i.size, i.bytes)) = some (some (.int .i64 0), 1, 8) := by kernel_rfl

/-- 'append(x, n)'. -/
theorem append_num {w : World} {ops : Array Oper} {rest : List Oper} {o : Oper} {a : Act} {Q : Exit → Act → World → Prop} (hgd : o.guard = none) (s x : Operand)
    (ho : o.op = .call { callee := .builtin .append, args := #[s, x], argTypes := #[22, 22] })
    (v : Value) (l : List Nat) (n : Nat) (hn : n = l.length) (hs : a.eval s = v) (hq : w.ownsRow 0 3 1 v n (i64l l))
    (g0 : Nat) (c : Nat) (y : Nat) (hx : a.eval x = .slice (some ⟨g0, 0, none⟩) 1 c) (hy : w.cell? ⟨g0, 0, none⟩ = some (.int .i64 (y : Int)))
    (hlen : n ≤ 1000)
    (h : ∀ v' w', w'.ownsRow 0 3 1 v' (n + 1) (i64l (l ++ [y])) → w.grownBy w' v.ownBlock → (v'.ownBlock = v.ownBlock ∨ v'.ownBlock = some w.heap.size) → wpList Tryz.prog ops Q rest (a.put o.dst v') w') : wpList Tryz.prog ops Q (o :: rest) a w := by
  obtain ⟨i0, hi, hz0, hz1, hz2⟩ := info_parts Tryz.introw
  subst hn
  refine wpList_append_own_at w hgd s x 22 ho 0 3 i0 (.int .i64 0) 1 8 Tryz.underlying22 hi hz0 hz1 hz2 rfl (by decide) v l.length (i64l l) hs hq ⟨g0, 0, none⟩ 1 c [.int .i64 (y : Int)] hx rfl ?_ (by simp [Value.oneCell']) (by unfold maxLen; omega) (by omega) (Nat.zero_le _) ?_
  · intro j u hj
    rcases j with _ | j
    · simp at hj
      subst hj
      exact hy
    · simp at hj
  · intro v' w' h1 h2 _ h4
    exact h v' w' (by simpa [i64l] using h1) h2 h4

theorem owns_slice {w : World} {B e s n : Nat} {v : Value} {xs : List Value} (h : w.ownsRow B e s v n xs) : ∃ ao c, v = .slice ao n c := by
  rcases h.2 with ⟨rfl, h0⟩ | ⟨g, cap, cur, rfl, _⟩
  · subst h0
    exact ⟨none, 0, rfl⟩
  · exact ⟨_, cap, rfl⟩

/-- What stands at a place of a row of numbers. -/
theorem nums_at {w : World} {k c : Nat} {a : Option Addr} {l : List Nat} (h : w.ownsRow 0 3 1 (.slice a k c) k (i64l l)) {i : Nat} (hi : i < k) :
    ∃ g, a = some ⟨g, 0, none⟩ ∧ g < w.heap.size ∧ w.cell? ⟨g, i, none⟩ = some (.int .i64 ((l.getD i 0 : Nat) : Int)) := by
  rcases h.2 with ⟨h', h0⟩ | ⟨g, cap, cur, hv, hB, hh, _⟩
  · omega
  · simp only [Value.slice.injEq, true_and] at hv
    obtain ⟨rfl, rfl⟩ := hv
    refine ⟨g, rfl, lt_of_heap hh, ?_⟩
    have h1 := h.1
    have hl : i < l.length := by rw [i64l_length] at h1; omega
    rw [h.cellAt i (by omega)]
    simp [i64l, List.getD, hl]

def txt (i : Nat) : List UInt8 := [UInt8.ofNat i, 1]

theorem txt_ok (i : Nat) : okF (txt i) = true := okF_iff.2 ⟨by simp [txt], by simp [txt]⟩

/-- The texts that stand in segments from this one on. -/
def wantOf (A : List Nat) (f : Nat) : Nat → List (List UInt8)
  | 0 => []
  | k + 1 => wantOf A f k ++ (if f ≤ A.getD k 0 then [txt k] else [])

theorem wantOf_eq {A B : List Nat} (f : Nat) : ∀ k, (∀ i, i < k → A.getD i 0 = B.getD i 0) → wantOf A f k = wantOf B f k
  | 0, _ => rfl
  | k + 1, h => by rw [wantOf, wantOf, wantOf_eq f k (fun i hi => h i (by omega)), h k (by omega)]

theorem wantOf_none {A : List Nat} (f : Nat) : ∀ k, (∀ i, i < k → A.getD i 0 < f) → wantOf A f k = []
  | 0, _ => rfl
  | k + 1, h => by
    rw [wantOf, wantOf_none f k (fun i hi => h i (by omega)), if_neg (by have := h k (by omega); omega)]
    rfl

theorem wantOf_len (A : List Nat) (f : Nat) : ∀ k, (wantOf A f k).length ≤ k
  | 0 => Nat.le_refl _
  | k + 1 => by
    have := wantOf_len A f k
    rw [wantOf, List.length_append]
    split
    · simp; omega
    · simp; omega

theorem wantOf_short (A : List Nat) (f : Nat) : ∀ k t, t ∈ wantOf A f k → t.length ≤ 2
  | 0, t, h => by simp [wantOf] at h
  | k + 1, t, h => by
    rw [wantOf] at h
    rcases List.mem_append.1 h with h | h
    · exact wantOf_short A f k t h
    · split at h
      · simp at h; rw [h]; simp [txt]
      · simp at h

/-- What holds between the log and what the law keeps of it. -/
structure KeptF (w wr : World) (lb d k a : Nat) (T : List (List UInt8)) (S : Nat → List (List UInt8)) (L : List Nat) (M : List Fm) (A : List Nat) (av : Value) : Prop where
  log : LgAt L wr lb d rBig a T M
  ge : ∀ j ∈ L, w.heap.size ≤ j
  row : wr.ownsRow 0 3 1 av k (i64l A)
  off : ∀ g, av.ownBlock = some g → g ∉ L ∧ w.heap.size ≤ g
  len : A.length = k
  few : a ≤ k ∧ T.length ≤ k ∧ tot M ≤ 8 * k
  sg : Sg M a S
  le : ∀ i, i < k → A.getD i 0 ≤ a
  cat : ∀ f, f ≤ a → catS S f (a + 1 - f) = wantOf A f k
  bel : Below w.heap.size w wr

theorem getD_snoc (A : List Nat) (x i : Nat) : (A ++ [x]).getD i 0 = if i < A.length then A.getD i 0 else if i = A.length then x else 0 := by
  simp only [List.getD, List.getElem?_append]
  by_cases h : i < A.length
  · rw [if_pos h, if_pos h]
  · rw [if_neg h, if_neg h]
    by_cases h2 : i = A.length
    · rw [if_pos h2, h2, Nat.sub_self]
      rfl
    · rw [if_neg h2, List.getElem?_eq_none (by simp; omega)]
      rfl

theorem wantOf_snoc (A : List Nat) (x f : Nat) : wantOf (A ++ [x]) f (A.length + 1) = wantOf A f A.length ++ (if f ≤ x then [txt A.length] else []) := by
  have e : (A ++ [x]).getD A.length 0 = x := by rw [getD_snoc, if_neg (by omega), if_pos rfl]
  rw [wantOf, wantOf_eq f A.length (B := A) (fun i hi => by rw [getD_snoc, if_pos hi]), e]

set_option maxHeartbeats 8000000 in
set_option maxRecDepth 100000 in
theorem segFrom_walk (a0 : Option Addr) (cap0 : Nat) (l0 : List Int) (a1 : Int) (w : World) (w0 : Il w a0 cap0 l0) (w1 : (Lit.int .i64 a1).wf = true) (htab : Tab w) :
    Calls Tryz.prog 3 #[.slice a0 l0.length cap0, .int .i64 a1] w fun e w' => e = .returned (.bool true) ∧ Below w.heap.size w w' := by
  have hlen : (l0.length : Int) ≤ 9223372036854775807 := by
    rcases id w0 with ⟨_, _, rfl⟩ | ⟨A, _, q1, q2, _⟩
    · simp
    · unfold maxLen at q2; omega
  have hb1 := bounds_i64 w1
  have H0 := Lib.hid w0
  have HTB := Lib.hid htab
  clear w0 w1 htab
  go_enter Tryz.func3, Tryz.ntmps3
  go_wp2_with fail
  refine (begun4_calls _ HTB.out).mono ?_
  rintro e x1 ⟨rfl, hb1⟩
  have B1 := Lib.hid hb1
  have T1 := Lib.hid (HTB.out.turn (Turn.of_below hb1 []) (by simp))
  clear hb1
  go_wp2_with fail
  refine (dk_new 1048576 x1).mono ?_
  rintro e x2 ⟨rfl, hd⟩
  rw [room_big] at hd
  have D2 := Lib.hid hd
  obtain ⟨d, hdd⟩ : ∃ d, d = x1.heap.size := ⟨_, rfl⟩
  rw [← hdd] at D2 ⊢
  clear hd hdd
  go_wp2_with fail
  refine (open_calls D2.out T1.out 0 (by decide) 0 (fun n => by simp [mDel, bytesOf]) (by simp)).mono ?_
  rintro e x3 ⟨hok, -⟩
  obtain ⟨lb, rfl, hl3⟩ := hok (by rw [open_first.1])
  rw [open_first.1, open_first.2] at hl3
  have hl3' : Lg [] x1 x3 lb d rBig 0 [] [] := hl3
  obtain ⟨L0, hL0, hge0⟩ := hl3'.start
  have K0 : Hid (KeptF w x3 lb d 0 0 [] (fun _ => []) L0 [] [] (.slice none 0 0)) := Lib.hid ⟨hL0, fun k hk => Nat.le_trans B1.out.size (hge0 k hk), World.ownsRow_nil _ _ _ _, (by intro g hg; cases hg), rfl, by simp [tot], Sg.empty, (by intro i hi; omega), (by intro f hf; obtain rfl : f = 0 := Nat.le_zero.1 hf; rfl), B1.out.trans (hl3'.1.belowAll.mono B1.out.size)⟩
  clear hl3 hl3' hok D2 hL0 hge0 T1
  go_wp2_with fail
  go_loopw [9, 10] (fun v i wr => ∃ (k a : Nat) (T : List (List UInt8)) (S : Nat → List (List UInt8)) (L : List Nat) (M : List Fm) (A : List Nat), k ≤ l0.length ∧ k ≤ 20 ∧ i = .int .i64 k ∧ KeptF w wr lb d k a T S L M A v) (fun _ i _ => 20 - (intOf i).toNat)
  case atStart => exact ⟨0, 0, [], _, L0, [], [], by omega, by omega, rfl, K0.out⟩
  case round =>
    clear K0 B1
    obtain ⟨k, a, T, S, L, M, A, hk, hk20, rfl, hkp⟩ := hrel
    have KP := Lib.hid hkp
    have hak := hkp.few.1
    have hTk := hkp.few.2.1
    obtain ⟨av, cv, hv⟩ := owns_slice hkp.row
    subst hv
    clear hkp
    by_cases hlt : k < l0.length ∧ k < 20
    · obtain ⟨hl, h20⟩ := hlt
      obtain ⟨ob, off, ha0, hob, hop⟩ := H0.out.at (by intro e; rw [e] at hl; simp at hl)
      subst ha0
      have hz := (KP.out.bel.cell (p := ⟨ob, off + k, none⟩) hob).trans (hop k hl)
      have hzo := hop k hl
      clear hop
      generalize l0.getD k 0 = z at hz hzo
      have HZ0 := Lib.hid hzo
      clear hzo
      have hd20 : decide ((k : Int) < 20) = true := by simp; omega
      have hw8 : IntKind.wrap .u8 (k : Int) = (k : Int) := by show (k : Int) % 256 = k; omega
      have hu8 : ((UInt8.ofNat k).toNat : Int) = (k : Int) := by
        have := u8_ofNat (n := (k : Int)) (by omega) (by omega)
        simpa using this
      obtain ⟨y, hy⟩ : ∃ y, y = txt k := ⟨_, rfl⟩
      have hyl : y.length = 2 := by rw [hy]; rfl
      have hok : okF y = true := by rw [hy]; exact txt_ok k
      have htot : tot M ≤ 160 := by have := KP.out.few.2.2; omega
      have hto : addTo M a = a ∧ addM M a = M := by
        have h1 := bytesOf_le (M := M) (segName a)
        unfold addTo addM
        rw [if_neg (by omega), if_neg (by omega)]
        exact ⟨rfl, rfl⟩
      obtain ⟨ap1, ap2, ap3⟩ := app_big (M := M) (a := a) (b := y) KP.out.log.1.nodup (by omega) (by unfold rBig; omega)
      obtain ⟨xa, hxa⟩ : ∃ xa, xa = wr.alloc (.cells #[.int .u8 (k : Int), .int .u8 1] 5 (0, 0)) := ⟨_, rfl⟩
      have ta : Turn [] wr xa := by rw [hxa]; exact Turn.alloc [] wr _
      have LAa := KP.out.log.shift ta (by simp) (by simp)
      have sa : Sl xa (some ⟨wr.heap.size, 0, none⟩) 2 y := by
        rw [hxa, hy]
        refine .inr ⟨_, rfl, by simp [txt], by unfold maxLen; omega, fun i hi => ?_⟩
        rw [Addr.add_lit, Nat.zero_add, cell_of_row _ wr.heap.size i _ _ (0, 0) (heap_alloc_new wr _)]
        have : i < 2 := by simpa [txt] using hi
        rcases (show i = 0 ∨ i = 1 by omega) with rfl | rfl
        · show some (Value.int .u8 (k : Int)) = some (.int .u8 ((UInt8.ofNat k).toNat : Int))
          rw [hu8]
        · rfl
      have CA := add_calls LAa.1 (some ⟨wr.heap.size, 0, none⟩) 2 y hok sa (fun B hB _ hm => by cases hB; have := KP.out.log.2 _ hm; simp at this) (by rw [hto.1]; omega) (by omega)
      rw [hto.1, hto.2, ap1, ap2, hyl, hxa] at CA
      have HCA := Lib.hid CA
      have SG5 := Lib.hid (KP.out.sg.add (b := y) (by omega) hok)
      have TT5 : Hid (tot (mApp (segName a) (frB y) M) ≤ 8 * (k + 1)) := Lib.hid (by rw [ap3, hyl]; have := KP.out.few.2.2; omega)
      have CT5 : Hid (∀ f, f ≤ a → catS (updS S a y) f (a + 1 - f) = wantOf (A ++ [a]) f (k + 1)) := Lib.hid (fun f hf => by
        have h1 := KP.out.len
        have h2 := wantOf_snoc A a f
        rw [h1, if_pos hf] at h2
        rw [catS_upd KP.out.sg y f hf, KP.out.cat f hf, h2, hy])
      have SZA := Lib.hid (show xa.heap.size = wr.heap.size + 1 by rw [hxa]; simp)
      have TA := Lib.hid ta
      have HXA := Lib.hid hxa
      clear CA hok hto ap1 ap2 ap3 htot LAa sa ta hxa hy hu8 hyl
      go_wp2_with fail
      refine HCA.out.mono ?_
      rintro e x5 ⟨rfl, hl5, -⟩
      have hl5' := hl5 (by trivial)
      rw [← HXA.out] at hl5'
      obtain ⟨L', hL', hin'⟩ := hl5'.next
      have t5 := hl5'.1
      have R5 := Lib.hid (ownsRow_turn (ownsRow_turn KP.out.row TA.out (fun _ _ => by simp)) t5 (fun g hg => (KP.out.off g hg).1))
      have B4 := KP.out.bel.trans (TA.out.belowAll.mono KP.out.bel.size)
      have B5 := Lib.hid (B4.trans (t5.below KP.out.ge B4.size))
      have LA5 := Lib.hid hL'
      have IN5 := Lib.hid (show ∀ j ∈ L', j ∈ L ∨ wr.heap.size + 1 ≤ j from fun j hj => by have := hin' j hj; rw [SZA.out] at this; exact this)
      have hsz5 := Lib.hid (show wr.heap.size + 1 ≤ x5.heap.size by rw [← SZA.out]; exact t5.size)
      have GE5 : Hid (∀ j ∈ L', w.heap.size ≤ j) := Lib.hid (fun j hj => by
        have h0 := KP.out.bel.size
        rcases IN5.out j hj with h1 | h1
        · exact KP.out.ge j h1
        · omega)
      have OFF5 : Hid (∀ g, (Value.slice av k cv).ownBlock = some g → g ∉ L' ∧ w.heap.size ≤ g ∧ g < wr.heap.size) := Lib.hid (fun g hg => by
        have h1 := KP.out.off g hg
        have h2 := (KP.out.row.lt g hg).2
        exact ⟨fun hm => by
          rcases IN5.out _ hm with h4 | h4
          · exact h1.1 h4
          · omega, h1.2, h2⟩)
      clear hl5 hl5' t5 hL' hin' HCA B4
      go_wp2_with fail
      refine (at_calls LA5.out.1).mono ?_
      rintro e w' ⟨rfl, rfl⟩
      have HY : (x5.alloc (.cells #[.int .i64 (a : Int)] 3)).cell? ⟨x5.heap.size, 0, none⟩ = some (.int .i64 (a : Int)) := by
        rw [cell_of_row _ _ _ _ _ _ (heap_alloc_new x5 (.cells #[.int .i64 (a : Int)] 3))]; rfl
      have RA5 := Lib.hid (ownsRow_turn R5.out (Turn.alloc [] x5 (.cells #[.int .i64 (a : Int)] 3)) (fun _ _ => by simp))
      have HLN := Lib.hid KP.out.len
      have HYY := Lib.hid HY
      clear HY
      go_wp2_with (at_builtin; refine append_num rfl (.tmp 41) (.tmp 44) rfl (.slice av k cv) A k HLN.out.symm rfl RA5.out x5.heap.size 1 a rfl HYY.out (by omega) ?_)
      intro v7 x7 hown7 hg7 hat7
      have tg := (Turn.alloc (Value.slice av k cv).ownBlock.toList x5 (.cells #[.int .i64 (a : Int)] 3)).trans (Turn.grown (l := (Value.slice av k cv).ownBlock.toList) hg7 (fun k hk => .inl (by rw [hk]; simp))) (fun i hi => .inl hi)
      have LA7 := LA5.out.shift tg (fun g hg => (OFF5.out g (Option.mem_toList.1 hg)).1) (fun hm => by have h1 := (OFF5.out _ (Option.mem_toList.1 hm)).2.1; have h2 := HTB.out.lt; omega)
      have B7 := B5.out.trans (tg.below (fun g hg => (OFF5.out _ (Option.mem_toList.1 hg)).2.1) B5.out.size)
      obtain ⟨a7, c7, hv7⟩ := owns_slice hown7
      subst hv7
      obtain ⟨T', hT'⟩ : ∃ T', T' = T ++ [y] := ⟨_, rfl⟩
      have K7 : Hid (KeptF w x7 lb d (k + 1) a T' (updS S a y) L' (mApp (segName a) (frB y) M) (A ++ [a]) (.slice a7 (k + 1) c7)) := Lib.hid ⟨by rw [hT']; exact LA7, GE5.out, hown7, fun g hg => by
          rcases hat7 with h1 | h1
          · have := OFF5.out g (by rw [← h1]; exact hg)
            exact ⟨this.1, this.2.1⟩
          · rw [h1] at hg
            have h2 : x5.heap.size + 1 = g := Option.some.inj hg
            have h3 := B5.out.size
            exact ⟨fun hm => by have := LA5.out.2 _ hm; omega, by omega⟩, by simp [HLN.out], ⟨by omega, by rw [hT']; simp; omega, TT5.out⟩, SG5.out, fun i hi => by
          rw [getD_snoc, HLN.out]
          split
          · exact KP.out.le i (by assumption)
          · split <;> omega, CT5.out, B7⟩
      clear LA7 B7 tg hown7 hg7 hat7 KP R5 B5 LA5 IN5 GE5 SG5 CT5 TT5 OFF5 HLN RA5 HYY hsz5 SZA TA HXA hT'
      generalize updS S a y = S' at K7
      generalize mApp (segName a) (frB y) M = M' at K7
      generalize A ++ [a] = A' at K7
      have hz8 : x7.cell? ⟨ob, off + k, none⟩ = some (.int .i64 z) := by
        exact (K7.out.bel.cell (p := ⟨ob, off + k, none⟩) hob).trans HZ0.out
      clear hz
      have CN := Lib.hid (next_calls K7.out.log.1 (by omega))
      go_wp2_with fail
      · refine CN.out.mono ?_
        rintro e x8 ⟨rfl, h8⟩
        obtain ⟨L8, hL8, hin8⟩ := h8.next
        have t8 := h8.1
        have hak8 : a ≤ k := hak
        have K8 : Hid (KeptF w x8 lb d (k + 1) (a + 1) T' S' L8 (synM M' (segName a)) A' (.slice a7 (k + 1) c7)) := Lib.hid ⟨hL8, fun j hj => by
            rcases hin8 j hj with h1 | h1
            · exact K7.out.ge j h1
            · exact Nat.le_trans K7.out.bel.size h1, ownsRow_turn K7.out.row t8 (fun g hg => (K7.out.off g hg).1), fun g hg => ⟨fun hm => by
              rcases hin8 g hm with h4 | h4
              · exact (K7.out.off g hg).1 h4
              · have := (K7.out.row.lt g hg).2; omega, (K7.out.off g hg).2⟩, K7.out.len, ⟨by omega, K7.out.few.2.1, by rw [tot_syn]; exact K7.out.few.2.2⟩, K7.out.sg.next, fun i hi => by have := K7.out.le i hi; omega, fun f hf => by
              rw [K7.out.sg.cat_next (by omega)]
              by_cases hfa : f ≤ a
              · exact K7.out.cat f hfa
              · rw [show a + 1 - f = 0 by omega, catS, wantOf_none f _ (fun i hi => by have := K7.out.le i hi; omega)], K7.out.bel.trans (t8.below K7.out.ge K7.out.bel.size)⟩
        clear hL8 hin8 t8 h8 CN
        go_wp2
        go_roundw
        case rel => exact ⟨k + 1, a + 1, T', S', L8, _, A', by omega, by omega, by go_num, K8.out⟩
        case measure => simp [intOf]; omega
      · go_roundw
        case rel => exact ⟨k + 1, a, T', S', L', M', A', by omega, by omega, by go_num, K7.out⟩
        case measure => simp [intOf]; omega
    · by_cases hl : k < l0.length
      · have hd20 : decide ((k : Int) < 20) = false := by simp; omega
        by_cases hneg : a1 < 0
        · go_wp2
          go_ret
          exact ⟨rfl, KP.out.bel⟩
        · obtain ⟨fr, rfl⟩ : ∃ n : Nat, a1 = (n : Int) := ⟨a1.toNat, by omega⟩
          have hd0 : decide ((fr : Int) < 0) = false := by simp; try omega
          go_wp2_with fail
          refine (at_calls KP.out.log.1).mono ?_
          rintro e w' ⟨rfl, rfl⟩
          by_cases hgt : a < fr
          · have hg1 : (a : Int) < (fr : Int) := by omega
            go_wp2
            go_ret
            exact ⟨rfl, KP.out.bel⟩
          · have hg1 : ¬ (a : Int) < (fr : Int) := by omega
            clear hneg hd0
            go_wp2_with fail
            have AV := Lib.hid (show ∀ g, (Value.slice av k cv).ownBlock = some g → g < wr.heap.size from fun g hg => (KP.out.row.lt g hg).2)
            go_loopw [11, 12] (fun v i wx => ∃ (j : Nat), j ≤ k ∧ i = .int .i64 j ∧ LgAt L wx lb d rBig a T M ∧ wx.ownsRow 0 3 1 (.slice av k cv) k (i64l A) ∧ Txs wx (fun g => (g ∉ L ∧ w.heap.size ≤ g) ∧ (Value.slice av k cv).ownBlock ≠ some g) v (wantOf A fr j) ∧ Below w.heap.size w wx ∧ wr.heap.size ≤ wx.heap.size) (fun _ i _ => k - (intOf i).toNat)
            case atStart => exact ⟨0, by omega, rfl, KP.out.log, KP.out.row, Txs.nil _ _, KP.out.bel, Nat.le_refl _⟩
            case round =>
              obtain ⟨j, hj, rfl, hla, hrw, htx, hbx, hsz⟩ := hrel
              obtain ⟨aw, cw, hv, -⟩ := htx.form
              subst hv
              have LA := Lib.hid hla
              have RW := Lib.hid hrw
              have TX := Lib.hid htx
              have BX := Lib.hid hbx
              have SZ := Lib.hid hsz
              obtain ⟨nw, hnw⟩ : ∃ n, n = (wantOf A fr j).length := ⟨_, rfl⟩
              have HNW := Lib.hid hnw
              have hnwl : nw ≤ 20 := by have := wantOf_len A fr j; omega
              rw [← hnw]
              clear hla hrw htx hbx hsz hnw
              by_cases hlt2 : j < k
              · obtain ⟨ga, rfl, hga, hcell⟩ := nums_at RW.out hlt2
                have hwq : wantOf A fr (j + 1) = wantOf A fr j ++ (if fr ≤ A.getD j 0 then [txt j] else []) := rfl
                have HWQ := Lib.hid hwq
                clear hwq
                generalize A.getD j 0 = q at hcell HWQ
                by_cases hq : fr ≤ q
                · have hwy := HWQ.out
                  rw [if_pos hq] at hwy
                  have HWY := Lib.hid hwy
                  have hq1 : (fr : Int) ≤ (q : Int) := by omega
                  have hq2 : decide ((fr : Int) ≤ (q : Int)) = true := by simp; omega
                  have hw8 : IntKind.wrap .u8 (j : Int) = (j : Int) := by show (j : Int) % 256 = j; omega
                  have hu8 : ((UInt8.ofNat j).toNat : Int) = (j : Int) := by
                    have := u8_ofNat (n := (j : Int)) (by omega) (by omega)
                    simpa using this
                  obtain ⟨xa, hxa⟩ : ∃ xa, xa = wr.alloc (.cells #[.int .u8 (j : Int), .int .u8 1] 5 (0, 0)) := ⟨_, rfl⟩
                  have ta : Turn [] wr xa := by rw [hxa]; exact Turn.alloc [] wr _
                  have sza : xa.heap.size = wr.heap.size + 1 := by rw [hxa]; simp
                  have sa : Sl xa (some ⟨wr.heap.size, 0, none⟩) 2 (txt j) := by
                    rw [hxa]
                    refine .inr ⟨_, rfl, by simp [txt], by unfold maxLen; omega, fun i hi => ?_⟩
                    rw [Addr.add_lit, Nat.zero_add, cell_of_row _ wr.heap.size i _ _ (0, 0) (heap_alloc_new wr _)]
                    have : i < 2 := by simpa [txt] using hi
                    rcases (show i = 0 ∨ i = 1 by omega) with rfl | rfl
                    · show some (Value.int .u8 (j : Int)) = some (.int .u8 ((UInt8.ofNat j).toNat : Int))
                      rw [hu8]
                    · rfl
                  have tb : Turn [] wr (xa.alloc (.cells #[.slice (some ⟨wr.heap.size, 0, none⟩) 2 2] 31)) := ta.trans (Turn.alloc [] xa _) (by simp)
                  obtain ⟨xs, hxs, hfin⟩ := Txs.appended (U := [txt j]) (Q := fun g => (g ∉ L ∧ w.heap.size ≤ g) ∧ (Value.slice (some ⟨ga, 0, none⟩) k cv).ownBlock ≠ some g) (TX.out.turn tb (fun _ _ => by simp)) [.slice (some ⟨wr.heap.size, 0, none⟩) 2 2] rfl (fun i hi => by
                    have hi0 : i = 0 := by simpa using hi
                    subst hi0
                    refine ⟨_, _, rfl, sa.turn (Turn.alloc [] xa _) (by simp), fun B hB _ => ?_⟩
                    cases hB
                    refine ⟨⟨⟨fun hm => by have := LA.out.2 _ hm; simp at this, BX.out.size⟩, fun e2 => ?_⟩, fun e2 => ?_⟩
                    · have e3 : ga = wr.heap.size := Option.some.inj e2
                      omega
                    · obtain ⟨-, xs0, hr0, -⟩ := TX.out
                      have := (hr0.lt _ e2).2
                      simp at this) (fun g hg => hg) (fun g hg => by
                      have h1 : wr.heap.size + 2 ≤ g := by simp at hg; omega
                      have h2 := BX.out.size
                      exact ⟨⟨fun hm => by have := LA.out.2 _ hm; omega, by omega⟩, fun e2 => by have e3 : ga = g := Option.some.inj e2; omega⟩)
                  rw [← HNW.out] at hxs hfin
                  have HX := Lib.hid hxs
                  have HF := Lib.hid hfin
                  have SZA := Lib.hid sza
                  have TB := Lib.hid tb
                  have HYO : ∀ u ∈ [Value.slice (some ⟨wr.heap.size, 0, none⟩) 2 2], u.oneCell' = true := by intro u hu; simp at hu; subst hu; rfl
                  have HXA := Lib.hid hxa
                  clear hxs hfin sa ta tb hu8 sza hwy
                  rw [hxa] at HX HF
                  clear hxa
                  go_wp2_with (at_builtin; refine append_tx rfl (.tmp 77) (.tmp 81) rfl (.slice aw nw cw) nw xs rfl HX.out ⟨wr.heap.size + 1, 0, none⟩ 1 1 [.slice (some ⟨wr.heap.size, 0, none⟩) 2 2] rfl rfl (by have h1 := one_new xa (.slice (some ⟨wr.heap.size, 0, none⟩) 2 2) 31; rw [SZA.out, HXA.out] at h1; exact h1) HYO (by omega) ?_)
                  intro v7 x7 hown7 hg7 hat7
                  have TB' := TB.out
                  rw [HXA.out] at TB'
                  have TX7 := HF.out v7 x7 hown7 hg7 (by rcases hat7 with h1 | h1; exact .inl h1; exact .inr (by rw [h1]; simp))
                  have tg := (TB'.mono (l' := (Value.slice aw nw cw).ownBlock.toList) (by simp)).trans (Turn.grown (l := (Value.slice aw nw cw).ownBlock.toList) hg7 (fun k hk => .inl (by rw [hk]; simp))) (fun i hi => .inl hi)
                  have hown : ∀ g ∈ (Value.slice aw nw cw).ownBlock.toList, (g ∉ L ∧ w.heap.size ≤ g) ∧ (Value.slice (some ⟨ga, 0, none⟩) k cv).ownBlock ≠ some g := fun g hg => TX.out.1 g (by rw [← HNW.out]; exact Option.mem_toList.1 hg)
                  have LA7 := Lib.hid (LA.out.shift tg (fun g hg => (hown g hg).1.1) (fun hm => by have h1 := (hown _ hm).1.2; have h2 := HTB.out.lt; omega))
                  have RW7 := Lib.hid (ownsRow_turn RW.out tg (fun g hg hm => (hown g hm).2 hg))
                  have BX7 := Lib.hid (BX.out.trans (tg.below (fun g hg => (hown g hg).1.2) BX.out.size))
                  have SZ7 := Lib.hid (Nat.le_trans SZ.out tg.size)
                  obtain ⟨a7, c7, hv7, -⟩ := TX7.form
                  rw [List.length_append, List.length_singleton, ← HNW.out] at hv7
                  subst hv7
                  have TX8 := Lib.hid TX7
                  clear TX7 tg hown hown7 hg7 hat7 TB' TB HF HX LA RW BX SZ TX
                  go_wp2
                  go_roundw
                  case rel => exact ⟨j + 1, by omega, by go_num, LA7.out, RW7.out, by rw [HWY.out]; exact TX8.out, BX7.out, SZ7.out⟩
                  case measure => simp [intOf]; omega
                · have hwy := HWQ.out
                  rw [if_neg hq, List.append_nil] at hwy
                  have HWY := Lib.hid hwy
                  have hq1 : ¬ (fr : Int) ≤ (q : Int) := by omega
                  have hq2 : decide ((fr : Int) ≤ (q : Int)) = false := by simp; omega
                  clear hwy
                  go_wp2
                  go_roundw
                  case rel => exact ⟨j + 1, by omega, by go_num, LA.out, RW.out, by rw [HNW.out, HWY.out]; exact TX.out, BX.out, SZ.out⟩
                  case measure => simp [intOf]; omega
              · obtain rfl : j = k := by omega
                go_wp2_with fail
                refine (force_calls LA.out.1).mono ?_
                rintro e y1 ⟨rfl, h1⟩
                have Y1 := Lib.hid h1
                clear h1
                go_wp2_with fail
                refine (forget_calls Y1.out fr (by omega)).mono ?_
                rintro e y2 ⟨rfl, h2⟩
                obtain ⟨hsg, hnm⟩ := (KP.out.sg.force.1).forget (by omega) fr (by omega)
                obtain ⟨ho1, ho2, ho3⟩ := hsg.open (by omega) rBig (by omega : fr ≤ a)
                rw [Sg.forget_cat, KP.out.cat fr (by omega)] at ho1
                obtain ⟨Mf, hMf⟩ : ∃ Mf, Mf = forgM fr (synM M (segName a)) := ⟨_, rfl⟩
                rw [← hMf] at hsg hnm ho1 ho2 ho3 h2
                have t2 := h2.1
                have TX2 := (TX.out.imp (Q := fun g => g ∉ L ∧ g < wr.heap.size) (fun g hg hp => ⟨hp.1.1, hg⟩)).turn t2 (fun g hg => hg.1)
                have BX2 := BX.out.trans (t2.below KP.out.ge BX.out.size)
                have TAB2 := h2.tab
                obtain ⟨-, -, -, hnum, -, vT, lD, hc, hD, hl, -⟩ := h2
                have hlD : ∀ g ∈ lD, g ∈ L ∨ wr.heap.size ≤ g := fun g hg => (hl g hg).1
                have htbD : tabB ∉ lD := fun hm => by
                  have h3 := HTB.out.lt
                  have h4 := BX.out.size
                  rcases hlD _ hm with h5 | h5
                  · have := KP.out.ge _ h5; omega
                  · omega
                have hlb : lb ∉ lD := fun hm => (hl lb hm).2 rfl
                have hfew := seg_few hD.nodup hnm
                have hby : ∀ n, (bytesOf (mDel newName Mf) (segName n)).length ≤ tot Mf := fun n => by rw [hsg.del]; exact bytesOf_le _
                have htotf : tot Mf ≤ 160 := by
                  have h5 := tot_forg (synM M (segName a)) fr
                  rw [tot_syn] at h5
                  have := KP.out.few.2.2
                  rw [hMf]
                  omega
                have CO := open_at hD TAB2 htbD fr (by omega) 160 (fun n => Nat.le_trans (hby n) htotf) (by
                  have h5 : (openAt Mf fr + 1 - fr) * 160 ≤ 21 * 160 := Nat.mul_le_mul_right _ (by omega)
                  omega) (by rw [ho1])
                rw [ho1] at CO
                have HCO := Lib.hid CO
                have TX2' := Lib.hid (TX2.imp (Q := fun g => g ∉ lD) (fun g hg hp hm => by
                  rcases hlD g hm with h5 | h5
                  · exact hp.1 h5
                  · have := hp.2; omega))
                have BX2' := Lib.hid BX2
                have HC := Lib.hid (three_cells hc).2.1
                have HLB := Lib.hid hlb
                have HFEW := Lib.hid hfew
                have HGE : Hid (∀ g ∈ lD, w.heap.size ≤ g) := Lib.hid (fun g hg => by
                  have h4 := BX.out.size
                  rcases hlD g hg with h5 | h5
                  · exact KP.out.ge _ h5
                  · omega)
                clear CO hsg hnm ho1 ho2 ho3 hMf t2 TX2 BX2 TAB2 hc hD hl htbD hlb hfew hby htotf hnum hlD Y1
                go_wp2_with fail
                refine HCO.out.mono ?_
                rintro e y3 ⟨lb2, rfl, hl3⟩
                have t3 := hl3.1
                have C3 := t3.cell HC.out HLB.out
                have TX3 := TX2'.out.turn t3 (fun g hg => hg)
                have BX3 := BX2'.out.trans (t3.below HGE.out BX2'.out.size)
                have CALL := all_calls hl3 (fun i hi => by have := wantOf_short A fr _ _ (List.getElem_mem hi); omega)
                rw [← HNW.out] at CALL
                have HCALL := Lib.hid CALL
                obtain ⟨_, _, _, _, _, _, lD3, _, hD3, _, _⟩ := hl3
                have D3 := Lib.hid hD3
                have T3 := Lib.hid TX3
                have B3 := Lib.hid BX3
                have C3' := Lib.hid C3
                clear CALL TX3 BX3 C3 t3 hD3 HCO TX2' BX2' HC
                go_wp2_with fail
                refine HCALL.out.mono ?_
                rintro e y4 ⟨rfl, htx4, hb4⟩
                have T4 := T3.out.turn (Turn.of_below hb4 []) (fun _ _ => by simp)
                have CEQ := eq_calls _ _ _ _ (wantOf A fr j) y4 htx4.tl.2 T4.tl.2
                rw [← HNW.out] at CEQ
                have HEQ := Lib.hid CEQ
                have D4 := Lib.hid (D3.out.belowAll hb4)
                have B4 := Lib.hid (B3.out.trans (hb4.mono B3.out.size))
                have C4 := Lib.hid ((Turn.of_below hb4 []).cell C3'.out (by simp))
                clear CEQ T4 htx4 hb4 HCALL T3
                go_wp2_with fail
                refine HEQ.out.mono ?_
                rintro e y5 ⟨rfl, hb5⟩
                have D5 := Lib.hid (D4.out.belowAll hb5)
                have B5 := Lib.hid (B4.out.trans (hb5.mono B4.out.size))
                have C5 := Lib.hid ((Turn.of_below hb5 []).cell C4.out (by simp))
                clear hb5 HEQ D4 D3
                go_wp2_with fail
                refine (names_len D5.out (by have := HFEW.out; omega)).mono ?_
                rintro e y6 ⟨ao6, c6, rfl, hb6⟩
                have B6 := Lib.hid (B5.out.trans (hb6.mono B5.out.size))
                have C6 := Lib.hid ((Turn.of_below hb6 []).cell C5.out (by simp))
                clear hb6 D5
                obtain ⟨nm, hnm⟩ : ∃ n, n = Mf.length := ⟨_, rfl⟩
                have hnml : nm ≤ a + 1 - fr := by rw [hnm]; exact HFEW.out
                rw [← hnm]
                clear hnm
                go_wp2_with fail
                refine (at_cell C6.out).mono ?_
                rintro e y7 ⟨rfl, rfl⟩
                have hle : (nm : Int) ≤ (a : Int) - (fr : Int) + 1 := by omega
                have hdl : decide ((nm : Int) ≤ (a : Int) - (fr : Int) + 1) = true := by simpa using hle
                go_wp2
                go_ret
                exact ⟨rfl, B6.out⟩
      · by_cases hneg : a1 < 0
        · go_wp2
          go_ret
          exact ⟨rfl, KP.out.bel⟩
        · obtain ⟨fr, rfl⟩ : ∃ n : Nat, a1 = (n : Int) := ⟨a1.toNat, by omega⟩
          have hd0 : decide ((fr : Int) < 0) = false := by simp; try omega
          go_wp2_with fail
          refine (at_calls KP.out.log.1).mono ?_
          rintro e w' ⟨rfl, rfl⟩
          by_cases hgt : a < fr
          · have hg1 : (a : Int) < (fr : Int) := by omega
            go_wp2
            go_ret
            exact ⟨rfl, KP.out.bel⟩
          · have hg1 : ¬ (a : Int) < (fr : Int) := by omega
            clear hneg hd0
            go_wp2_with fail
            have AV := Lib.hid (show ∀ g, (Value.slice av k cv).ownBlock = some g → g < wr.heap.size from fun g hg => (KP.out.row.lt g hg).2)
            go_loopw [11, 12] (fun v i wx => ∃ (j : Nat), j ≤ k ∧ i = .int .i64 j ∧ LgAt L wx lb d rBig a T M ∧ wx.ownsRow 0 3 1 (.slice av k cv) k (i64l A) ∧ Txs wx (fun g => (g ∉ L ∧ w.heap.size ≤ g) ∧ (Value.slice av k cv).ownBlock ≠ some g) v (wantOf A fr j) ∧ Below w.heap.size w wx ∧ wr.heap.size ≤ wx.heap.size) (fun _ i _ => k - (intOf i).toNat)
            case atStart => exact ⟨0, by omega, rfl, KP.out.log, KP.out.row, Txs.nil _ _, KP.out.bel, Nat.le_refl _⟩
            case round =>
              obtain ⟨j, hj, rfl, hla, hrw, htx, hbx, hsz⟩ := hrel
              obtain ⟨aw, cw, hv, -⟩ := htx.form
              subst hv
              have LA := Lib.hid hla
              have RW := Lib.hid hrw
              have TX := Lib.hid htx
              have BX := Lib.hid hbx
              have SZ := Lib.hid hsz
              obtain ⟨nw, hnw⟩ : ∃ n, n = (wantOf A fr j).length := ⟨_, rfl⟩
              have HNW := Lib.hid hnw
              have hnwl : nw ≤ 20 := by have := wantOf_len A fr j; omega
              rw [← hnw]
              clear hla hrw htx hbx hsz hnw
              by_cases hlt2 : j < k
              · obtain ⟨ga, rfl, hga, hcell⟩ := nums_at RW.out hlt2
                have hwq : wantOf A fr (j + 1) = wantOf A fr j ++ (if fr ≤ A.getD j 0 then [txt j] else []) := rfl
                have HWQ := Lib.hid hwq
                clear hwq
                generalize A.getD j 0 = q at hcell HWQ
                by_cases hq : fr ≤ q
                · have hwy := HWQ.out
                  rw [if_pos hq] at hwy
                  have HWY := Lib.hid hwy
                  have hq1 : (fr : Int) ≤ (q : Int) := by omega
                  have hq2 : decide ((fr : Int) ≤ (q : Int)) = true := by simp; omega
                  have hw8 : IntKind.wrap .u8 (j : Int) = (j : Int) := by show (j : Int) % 256 = j; omega
                  have hu8 : ((UInt8.ofNat j).toNat : Int) = (j : Int) := by
                    have := u8_ofNat (n := (j : Int)) (by omega) (by omega)
                    simpa using this
                  obtain ⟨xa, hxa⟩ : ∃ xa, xa = wr.alloc (.cells #[.int .u8 (j : Int), .int .u8 1] 5 (0, 0)) := ⟨_, rfl⟩
                  have ta : Turn [] wr xa := by rw [hxa]; exact Turn.alloc [] wr _
                  have sza : xa.heap.size = wr.heap.size + 1 := by rw [hxa]; simp
                  have sa : Sl xa (some ⟨wr.heap.size, 0, none⟩) 2 (txt j) := by
                    rw [hxa]
                    refine .inr ⟨_, rfl, by simp [txt], by unfold maxLen; omega, fun i hi => ?_⟩
                    rw [Addr.add_lit, Nat.zero_add, cell_of_row _ wr.heap.size i _ _ (0, 0) (heap_alloc_new wr _)]
                    have : i < 2 := by simpa [txt] using hi
                    rcases (show i = 0 ∨ i = 1 by omega) with rfl | rfl
                    · show some (Value.int .u8 (j : Int)) = some (.int .u8 ((UInt8.ofNat j).toNat : Int))
                      rw [hu8]
                    · rfl
                  have tb : Turn [] wr (xa.alloc (.cells #[.slice (some ⟨wr.heap.size, 0, none⟩) 2 2] 31)) := ta.trans (Turn.alloc [] xa _) (by simp)
                  obtain ⟨xs, hxs, hfin⟩ := Txs.appended (U := [txt j]) (Q := fun g => (g ∉ L ∧ w.heap.size ≤ g) ∧ (Value.slice (some ⟨ga, 0, none⟩) k cv).ownBlock ≠ some g) (TX.out.turn tb (fun _ _ => by simp)) [.slice (some ⟨wr.heap.size, 0, none⟩) 2 2] rfl (fun i hi => by
                    have hi0 : i = 0 := by simpa using hi
                    subst hi0
                    refine ⟨_, _, rfl, sa.turn (Turn.alloc [] xa _) (by simp), fun B hB _ => ?_⟩
                    cases hB
                    refine ⟨⟨⟨fun hm => by have := LA.out.2 _ hm; simp at this, BX.out.size⟩, fun e2 => ?_⟩, fun e2 => ?_⟩
                    · have e3 : ga = wr.heap.size := Option.some.inj e2
                      omega
                    · obtain ⟨-, xs0, hr0, -⟩ := TX.out
                      have := (hr0.lt _ e2).2
                      simp at this) (fun g hg => hg) (fun g hg => by
                      have h1 : wr.heap.size + 2 ≤ g := by simp at hg; omega
                      have h2 := BX.out.size
                      exact ⟨⟨fun hm => by have := LA.out.2 _ hm; omega, by omega⟩, fun e2 => by have e3 : ga = g := Option.some.inj e2; omega⟩)
                  rw [← HNW.out] at hxs hfin
                  have HX := Lib.hid hxs
                  have HF := Lib.hid hfin
                  have SZA := Lib.hid sza
                  have TB := Lib.hid tb
                  have HYO : ∀ u ∈ [Value.slice (some ⟨wr.heap.size, 0, none⟩) 2 2], u.oneCell' = true := by intro u hu; simp at hu; subst hu; rfl
                  have HXA := Lib.hid hxa
                  clear hxs hfin sa ta tb hu8 sza hwy
                  rw [hxa] at HX HF
                  clear hxa
                  go_wp2_with (at_builtin; refine append_tx rfl (.tmp 77) (.tmp 81) rfl (.slice aw nw cw) nw xs rfl HX.out ⟨wr.heap.size + 1, 0, none⟩ 1 1 [.slice (some ⟨wr.heap.size, 0, none⟩) 2 2] rfl rfl (by have h1 := one_new xa (.slice (some ⟨wr.heap.size, 0, none⟩) 2 2) 31; rw [SZA.out, HXA.out] at h1; exact h1) HYO (by omega) ?_)
                  intro v7 x7 hown7 hg7 hat7
                  have TB' := TB.out
                  rw [HXA.out] at TB'
                  have TX7 := HF.out v7 x7 hown7 hg7 (by rcases hat7 with h1 | h1; exact .inl h1; exact .inr (by rw [h1]; simp))
                  have tg := (TB'.mono (l' := (Value.slice aw nw cw).ownBlock.toList) (by simp)).trans (Turn.grown (l := (Value.slice aw nw cw).ownBlock.toList) hg7 (fun k hk => .inl (by rw [hk]; simp))) (fun i hi => .inl hi)
                  have hown : ∀ g ∈ (Value.slice aw nw cw).ownBlock.toList, (g ∉ L ∧ w.heap.size ≤ g) ∧ (Value.slice (some ⟨ga, 0, none⟩) k cv).ownBlock ≠ some g := fun g hg => TX.out.1 g (by rw [← HNW.out]; exact Option.mem_toList.1 hg)
                  have LA7 := Lib.hid (LA.out.shift tg (fun g hg => (hown g hg).1.1) (fun hm => by have h1 := (hown _ hm).1.2; have h2 := HTB.out.lt; omega))
                  have RW7 := Lib.hid (ownsRow_turn RW.out tg (fun g hg hm => (hown g hm).2 hg))
                  have BX7 := Lib.hid (BX.out.trans (tg.below (fun g hg => (hown g hg).1.2) BX.out.size))
                  have SZ7 := Lib.hid (Nat.le_trans SZ.out tg.size)
                  obtain ⟨a7, c7, hv7, -⟩ := TX7.form
                  rw [List.length_append, List.length_singleton, ← HNW.out] at hv7
                  subst hv7
                  have TX8 := Lib.hid TX7
                  clear TX7 tg hown hown7 hg7 hat7 TB' TB HF HX LA RW BX SZ TX
                  go_wp2
                  go_roundw
                  case rel => exact ⟨j + 1, by omega, by go_num, LA7.out, RW7.out, by rw [HWY.out]; exact TX8.out, BX7.out, SZ7.out⟩
                  case measure => simp [intOf]; omega
                · have hwy := HWQ.out
                  rw [if_neg hq, List.append_nil] at hwy
                  have HWY := Lib.hid hwy
                  have hq1 : ¬ (fr : Int) ≤ (q : Int) := by omega
                  have hq2 : decide ((fr : Int) ≤ (q : Int)) = false := by simp; omega
                  clear hwy
                  go_wp2
                  go_roundw
                  case rel => exact ⟨j + 1, by omega, by go_num, LA.out, RW.out, by rw [HNW.out, HWY.out]; exact TX.out, BX.out, SZ.out⟩
                  case measure => simp [intOf]; omega
              · obtain rfl : j = k := by omega
                go_wp2_with fail
                refine (force_calls LA.out.1).mono ?_
                rintro e y1 ⟨rfl, h1⟩
                have Y1 := Lib.hid h1
                clear h1
                go_wp2_with fail
                refine (forget_calls Y1.out fr (by omega)).mono ?_
                rintro e y2 ⟨rfl, h2⟩
                obtain ⟨hsg, hnm⟩ := (KP.out.sg.force.1).forget (by omega) fr (by omega)
                obtain ⟨ho1, ho2, ho3⟩ := hsg.open (by omega) rBig (by omega : fr ≤ a)
                rw [Sg.forget_cat, KP.out.cat fr (by omega)] at ho1
                obtain ⟨Mf, hMf⟩ : ∃ Mf, Mf = forgM fr (synM M (segName a)) := ⟨_, rfl⟩
                rw [← hMf] at hsg hnm ho1 ho2 ho3 h2
                have t2 := h2.1
                have TX2 := (TX.out.imp (Q := fun g => g ∉ L ∧ g < wr.heap.size) (fun g hg hp => ⟨hp.1.1, hg⟩)).turn t2 (fun g hg => hg.1)
                have BX2 := BX.out.trans (t2.below KP.out.ge BX.out.size)
                have TAB2 := h2.tab
                obtain ⟨-, -, -, hnum, -, vT, lD, hc, hD, hl, -⟩ := h2
                have hlD : ∀ g ∈ lD, g ∈ L ∨ wr.heap.size ≤ g := fun g hg => (hl g hg).1
                have htbD : tabB ∉ lD := fun hm => by
                  have h3 := HTB.out.lt
                  have h4 := BX.out.size
                  rcases hlD _ hm with h5 | h5
                  · have := KP.out.ge _ h5; omega
                  · omega
                have hlb : lb ∉ lD := fun hm => (hl lb hm).2 rfl
                have hfew := seg_few hD.nodup hnm
                have hby : ∀ n, (bytesOf (mDel newName Mf) (segName n)).length ≤ tot Mf := fun n => by rw [hsg.del]; exact bytesOf_le _
                have htotf : tot Mf ≤ 160 := by
                  have h5 := tot_forg (synM M (segName a)) fr
                  rw [tot_syn] at h5
                  have := KP.out.few.2.2
                  rw [hMf]
                  omega
                have CO := open_at hD TAB2 htbD fr (by omega) 160 (fun n => Nat.le_trans (hby n) htotf) (by
                  have h5 : (openAt Mf fr + 1 - fr) * 160 ≤ 21 * 160 := Nat.mul_le_mul_right _ (by omega)
                  omega) (by rw [ho1])
                rw [ho1] at CO
                have HCO := Lib.hid CO
                have TX2' := Lib.hid (TX2.imp (Q := fun g => g ∉ lD) (fun g hg hp hm => by
                  rcases hlD g hm with h5 | h5
                  · exact hp.1 h5
                  · have := hp.2; omega))
                have BX2' := Lib.hid BX2
                have HC := Lib.hid (three_cells hc).2.1
                have HLB := Lib.hid hlb
                have HFEW := Lib.hid hfew
                have HGE : Hid (∀ g ∈ lD, w.heap.size ≤ g) := Lib.hid (fun g hg => by
                  have h4 := BX.out.size
                  rcases hlD g hg with h5 | h5
                  · exact KP.out.ge _ h5
                  · omega)
                clear CO hsg hnm ho1 ho2 ho3 hMf t2 TX2 BX2 TAB2 hc hD hl htbD hlb hfew hby htotf hnum hlD Y1
                go_wp2_with fail
                refine HCO.out.mono ?_
                rintro e y3 ⟨lb2, rfl, hl3⟩
                have t3 := hl3.1
                have C3 := t3.cell HC.out HLB.out
                have TX3 := TX2'.out.turn t3 (fun g hg => hg)
                have BX3 := BX2'.out.trans (t3.below HGE.out BX2'.out.size)
                have CALL := all_calls hl3 (fun i hi => by have := wantOf_short A fr _ _ (List.getElem_mem hi); omega)
                rw [← HNW.out] at CALL
                have HCALL := Lib.hid CALL
                obtain ⟨_, _, _, _, _, _, lD3, _, hD3, _, _⟩ := hl3
                have D3 := Lib.hid hD3
                have T3 := Lib.hid TX3
                have B3 := Lib.hid BX3
                have C3' := Lib.hid C3
                clear CALL TX3 BX3 C3 t3 hD3 HCO TX2' BX2' HC
                go_wp2_with fail
                refine HCALL.out.mono ?_
                rintro e y4 ⟨rfl, htx4, hb4⟩
                have T4 := T3.out.turn (Turn.of_below hb4 []) (fun _ _ => by simp)
                have CEQ := eq_calls _ _ _ _ (wantOf A fr j) y4 htx4.tl.2 T4.tl.2
                rw [← HNW.out] at CEQ
                have HEQ := Lib.hid CEQ
                have D4 := Lib.hid (D3.out.belowAll hb4)
                have B4 := Lib.hid (B3.out.trans (hb4.mono B3.out.size))
                have C4 := Lib.hid ((Turn.of_below hb4 []).cell C3'.out (by simp))
                clear CEQ T4 htx4 hb4 HCALL T3
                go_wp2_with fail
                refine HEQ.out.mono ?_
                rintro e y5 ⟨rfl, hb5⟩
                have D5 := Lib.hid (D4.out.belowAll hb5)
                have B5 := Lib.hid (B4.out.trans (hb5.mono B4.out.size))
                have C5 := Lib.hid ((Turn.of_below hb5 []).cell C4.out (by simp))
                clear hb5 HEQ D4 D3
                go_wp2_with fail
                refine (names_len D5.out (by have := HFEW.out; omega)).mono ?_
                rintro e y6 ⟨ao6, c6, rfl, hb6⟩
                have B6 := Lib.hid (B5.out.trans (hb6.mono B5.out.size))
                have C6 := Lib.hid ((Turn.of_below hb6 []).cell C5.out (by simp))
                clear hb6 D5
                obtain ⟨nm, hnm⟩ : ∃ n, n = Mf.length := ⟨_, rfl⟩
                have hnml : nm ≤ a + 1 - fr := by rw [hnm]; exact HFEW.out
                rw [← hnm]
                clear hnm
                go_wp2_with fail
                refine (at_cell C6.out).mono ?_
                rintro e y7 ⟨rfl, rfl⟩
                have hle : (nm : Int) ≤ (a : Int) - (fr : Int) + 1 := by omega
                have hdl : decide ((nm : Int) ≤ (a : Int) - (fr : Int) + 1) = true := by simpa using hle
                go_wp2
                go_ret
                exact ⟨rfl, B6.out⟩

end Go.Proofs.YtjdpglmphacfjaaGreatDoor
