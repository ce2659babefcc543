/-
  Of the texts OrderRoomWalk OrderRoom, in build order, each as it was built alone.
-/
import Derived.Test.YtjhlfjgfohoflaaGreatPkBD
import Derived.Test.YtjhlfjgfohoflaaGreatRows
import Derived.ProofKit
import Derived.OpenShut
import Derived.ShutString
import Derived.ChangeOld
import Derived.Below

/-
  The walk of the law OrderRoom.
-/
namespace Go.Proofs.YtjhlfjgfohoflaaGreat
open Go.RowKit Go.Proofs.YtjhlfjgfohoflaaGreat.V

def orNm (i : Nat) : ByteArray := ⟨#[113, UInt8.ofNat (97 + i)]⟩
def orM (k : Nat) : List (ByteArray × ByteArray) := (List.range k).map fun i => (orNm i, ⟨#[]⟩)
def orR (k : Nat) : List (ByteArray × ByteArray) := List.replicate k (qT, ⟨#[]⟩)
def newT : ByteArray := ⟨#[110, 101, 119]⟩
def s5 : StV := ⟨5, 1, 1, 0, [], [], [], [], []⟩

theorem new5 : newS 5 = s5 := (eqStB_iff _ _).1 (by decide +kernel)
theorem m5 : MayP s5 := mayB_iff.1 (by decide +kernel)
theorem cells_5 (a : Ads) : s5.cells a = #[.int .i64 5, .int .i64 1, .int .i64 1, .int .i64 0, .slice a.m 0 a.cm, .slice a.w 0 a.cw, .slice a.e 0 a.ce, .slice a.o 0 a.co, .slice a.n 0 a.cn] := rfl

theorem orM_next (k : Nat) : orM (k + 1) = orM k ++ [(orNm k, ⟨#[]⟩)] := by simp [orM, List.range_succ]
theorem orR_next (k : Nat) : orR (k + 1) = orR k ++ [(qT, ⟨#[]⟩)] := by simp [orR, List.replicate_succ']
theorem orM_len (k : Nat) : (orM k).length = k := by simp [orM]
theorem orR_len (k : Nat) : (orR k).length = k := by simp [orR]

theorem room_sorted : ∀ k : Fin 9, (bys (namesL s5 (orM k.1))).Pairwise fun x y => decide (x ≤ y) = true := by decide +kernel
theorem room_few : ∀ k : Fin 9, (Lib.compact (bys (namesL s5 (orM k.1)))).length = k.1 := by decide +kernel
theorem room_none : ∀ k : Fin 9, countT newT (namesL s5 (orM k.1)) = 0 := by decide +kernel
theorem room_new (k : Fin 9) : roomB s5 (orM k.1) newT = decide (k.1 < 6) := by
  unfold roomB queuesQ
  rw [if_pos (room_none k), List.mergeSort_of_pairwise (room_sorted k), room_few k]

theorem room_q : ∀ k : Fin 15, roomB s5 (orR k.1) qT = decide (k.1 < 12) := by decide +kernel

theorem pcells_app (l m : List (ByteArray × ByteArray)) : pcells (l ++ m) = pcells l ++ pcells m := pcells_append l m

theorem put_sz (l : List (ByteArray × ByteArray)) (h : ∀ p ∈ l, p.1.size ≤ 2 ∧ p.2.size ≤ 2) : ∀ i, i < l.length → (l.getD i putNone).1.size ≤ 9223372036854775807 ∧ (l.getD i putNone).2.size ≤ 9223372036854775807 := fun i hi => by
  have := h (l.getD i putNone) (by simp [List.getD, hi])
  omega

theorem orM_sz (k : Nat) : ∀ p ∈ orM k, p.1.size ≤ 2 ∧ p.2.size ≤ 2 := fun p hp => by
  obtain ⟨i, -, rfl⟩ := List.mem_map.1 hp
  exact ⟨Nat.le_refl 2, Nat.zero_le 2⟩

theorem orR_sz (k : Nat) : ∀ p ∈ orR k, p.1.size ≤ 2 ∧ p.2.size ≤ 2 := fun p hp => by
  rw [(List.mem_replicate.1 hp).2]
  exact ⟨by decide +kernel, by decide +kernel⟩

set_option maxHeartbeats 8000000 in
set_option maxRecDepth 100000 in
theorem orderRoom_walk {w : World} (n : Int) (wn : (Lit.int .i64 n).wf = true) (m : Int) (wm : (Lit.int .i64 m).wf = true) : Calls Tryz.prog 9 #[.int .i64 n, .int .i64 m] w fun e w' => e = .returned (.bool true) ∧ Below w.heap.size w w' := by
  have CB := Lib.hid (begun10_calls w)
  go_enter Tryz.func9, Tryz.ntmps9
  by_cases h1 : n < 0
  · have d1 := decide_eq_true h1
    go_wp2_with fail
    refine CB.out.mono ?_
    rintro e x1 ⟨rfl, t1⟩
    have T1 := Lib.hid t1
    clear t1 CB
    go_wp2_with fail
    go_ret
    exact ⟨rfl, T1.out.belowAll⟩
  have d1 := decide_eq_false h1
  by_cases h2 : n > 14
  · have d2 := decide_eq_true h2
    go_wp2_with fail
    refine CB.out.mono ?_
    rintro e x1 ⟨rfl, t1⟩
    have T1 := Lib.hid t1
    clear t1 CB
    go_wp2_with fail
    go_ret
    exact ⟨rfl, T1.out.belowAll⟩
  have d2 := decide_eq_false h2
  by_cases h3 : m < 0
  · have d3 := decide_eq_true h3
    go_wp2_with fail
    refine CB.out.mono ?_
    rintro e x1 ⟨rfl, t1⟩
    have T1 := Lib.hid t1
    clear t1 CB
    go_wp2_with fail
    go_ret
    exact ⟨rfl, T1.out.belowAll⟩
  have d3 := decide_eq_false h3
  by_cases h4 : m > 8
  · have d4 := decide_eq_true h4
    go_wp2_with fail
    refine CB.out.mono ?_
    rintro e x1 ⟨rfl, t1⟩
    have T1 := Lib.hid t1
    clear t1 CB
    go_wp2_with fail
    go_ret
    exact ⟨rfl, T1.out.belowAll⟩
  have d4 := decide_eq_false h4
  obtain ⟨n, rfl⟩ : ∃ k : Nat, n = (k : Int) := ⟨n.toNat, by omega⟩
  obtain ⟨m, rfl⟩ : ∃ k : Nat, m = (k : Int) := ⟨m.toNat, by omega⟩
  have hn : n ≤ 14 := by omega
  have hm : m ≤ 8 := by omega
  clear h1 h2 h3 h4 wn wm
  go_wp2_with fail
  refine CB.out.mono ?_
  rintro e x1 ⟨rfl, t1⟩
  have CN := Lib.hid (stNew_calls 5 x1)
  rw [new5] at CN
  have T1 := Lib.hid t1
  obtain ⟨a5, ha5⟩ : ∃ a, a = noAds := ⟨_, rfl⟩
  rw [← ha5] at CN
  clear ha5 t1 CB
  go_wp2_with fail
  refine CN.out.mono ?_
  rintro e x2 ⟨rfl, is2, t2⟩
  have nb := Bx.new is2
  rw [cells_5] at nb
  have ta := Turn.alloc [] x2 (.cells #[.int .i64 5, .int .i64 1, .int .i64 1, .int .i64 0, .slice a5.m 0 a5.cm, .slice a5.w 0 a5.cw, .slice a5.e 0 a5.ce, .slice a5.o 0 a5.co, .slice a5.n 0 a5.cn] 27)
  have T2 := Lib.hid ((T1.out.trans t2 (by simp)).trans ta (by simp))
  have BS := Lib.hid nb
  rw [cells_5]
  clear nb ta is2 t2 CN T1
  go_wp2_with fail
  generalize hy : x2.alloc (.cells #[.int .i64 5, .int .i64 1, .int .i64 1, .int .i64 0, .slice a5.m 0 a5.cm, .slice a5.w 0 a5.cw, .slice a5.e 0 a5.ce, .slice a5.o 0 a5.co, .slice a5.n 0 a5.cn] 27) = y at *
  clear hy d1 d2 d3 d4
  go_loopw [8, 7] (fun vi vv wx => ∃ (k : Nat) (u : Value), k ≤ m ∧ vi = .int .i64 (k : Int) ∧ u = vv ∧ wx.ownsRow 0 45 2 u (orM k).length (pcells (orM k)) ∧ (∀ g, u.ownBlock = some g → y.heap.size ≤ g) ∧ Turn [] y wx) (fun vi _ _ => m - (intOf vi).toNat)
  case atStart => exact ⟨0, _, by omega, rfl, rfl, World.ownsRow_nil _ _ _ _, (by intro g hg; cases hg), Turn.refl _ _⟩
  case round =>
    obtain ⟨k, u, hk, rfl, rfl, hrow, hlow, ht⟩ := hrel
    have HT := Lib.hid ht
    have HR := Lib.hid hrow
    have HL := Lib.hid hlow
    clear hrow hlow ht
    by_cases hkm : k < m
    · have hw8 : IntKind.u8.wrap (97 + (k : Int)) = 97 + (k : Int) := by rw [IntKind.wrap_u8]; omega
      have W1 := Turn.alloc [] wr (.cells #[.int .u8 113, .int .u8 (97 + (k : Int))] 5)
      have sl := Sl.made wr #[.int .u8 113, .int .u8 (97 + (k : Int))] 5 [113, UInt8.ofNat (97 + k)] (by
        have : ((UInt8.ofNat (97 + k)).toNat : Int) = 97 + (k : Int) := by
          have := u8_ofNat (n := 97 + (k : Int)) (by omega) (by omega)
          rwa [show (97 + (k : Int)).toNat = 97 + k by omega] at this
        show [Value.int .u8 113, Value.int .u8 (97 + (k : Int))] = [Value.int .u8 ((113 : UInt8).toNat : Int), Value.int .u8 ((UInt8.ofNat (97 + k)).toNat : Int)]
        rw [this]
        rfl) (by simp [maxLen])
      have cv := conv10 sl (n := 2) rfl
      have hcv : (convert 52 9 (.slice (some ⟨wr.heap.size, 0, none⟩) 2 2)).run Tryz.prog (wr.alloc (.cells #[.int .u8 113, .int .u8 (97 + (k : Int))] 5)) = .ok (.string (orNm k)) (wr.alloc (.cells #[.int .u8 113, .int .u8 (97 + (k : Int))] 5)) := cv
      have e1 : (wr.alloc (.cells #[.int .u8 113, .int .u8 (97 + (k : Int))] 5)).heap.size = wr.heap.size + 1 := by simp
      obtain ⟨nm, hnm⟩ : ∃ x, x = orNm k := ⟨_, rfl⟩
      have HX : Hid (orM k ++ [(nm, ⟨#[]⟩)] = orM (k + 1)) := Lib.hid (by rw [hnm, orM_next])
      rw [← hnm] at hcv
      clear hnm sl cv
      have T2' := Lib.hid (W1.trans (Turn.alloc [] _ (.cells #[.string nm, .string ⟨#[]⟩] 45)) (by simp))
      have R2 := Lib.hid (ownsRow_turn HR.out T2'.out (by simp))
      have B2 := heap_alloc_new (wr.alloc (.cells #[.int .u8 113, .int .u8 (97 + (k : Int))] 5)) (.cells #[.string nm, .string ⟨#[]⟩] 45)
      rw [e1] at B2
      have Q2 := Lib.hid (two_of10 B2)
      have HLEN : Hid ((orM k).length ≤ 1000000) := Lib.hid (by rw [orM_len]; omega)
      clear B2 e1 W1
      go_wp2_with (at_builtin; refine append_put rfl (.tmp 35) (.tmp 42) rfl u (orM k) rfl R2.out (wr.heap.size + 1) (nm, ⟨#[]⟩) rfl Q2.out.1 Q2.out.2 HLEN.out ?_; intro v1 w1 r1 g1 o1)
      rw [HX.out] at r1
      have R3 := Lib.hid r1
      have T3 := Lib.hid ((HT.out.trans T2'.out (by simp)).trans (Turn.grown (l := u.ownBlock.toList) g1 (fun k hk => .inl (by simp [hk]))) (fun i hi => .inr (HL.out i (by simpa using hi))))
      have L3 : Hid (∀ g, v1.ownBlock = some g → y.heap.size ≤ g) := Lib.hid (fun g hg => by
        rcases o1 with e | e
        · exact HL.out g (by rw [← e]; exact hg)
        · rw [e] at hg
          have h1 := (HT.out.trans T2'.out (by simp)).size
          have h2 := Option.some.inj hg
          omega)
      clear r1 g1 o1
      go_wp2_with fail
      go_roundw
      case rel => exact ⟨k + 1, _, by omega, by go_num, rfl, R3.out, L3.out, T3.out⟩
      case measure => simp [intOf]; omega
    · have hkk : k = m := by omega
      subst hkk
      have HRM := Lib.hid (room_new ⟨k, by omega⟩)
      have hps : ∀ ao c, u = .slice ao (orM k).length c → Ps wr ao c (orM k) := fun ao c e => own_ps (by have := HR.out; rwa [e] at this) (put_sz _ (orM_sz k))
      obtain ⟨ao, c, hu⟩ := slice_form HR.out
      have HPS := Lib.hid (hps ao c hu)
      have CR := room_calls (BS.out.is.still HT.out) HPS.out (by show 0 + pending s5 + (orM k).length ≤ 1000000; rw [orM_len]; have : pending s5 = 0 := rfl; omega) newT
      rw [HRM.out, cells_5] at CR
      dsimp only at CR
      have HD : Hid (decide ((k : Int) < 6) = decide (k < 6)) := Lib.hid (decide_eq_decide.2 (by omega))
      have BR := Lib.hid (BS.out.still HT.out)
      have hh := BR.out.head
      rw [cells_5] at hh
      obtain ⟨c0, c1, c2, c3, c4, c5, c6, c7, c8⟩ := nine_of hh
      unfold newT at CR
      have CRR := Lib.hid CR
      rw [hu]
      obtain ⟨nk, hnk⟩ : ∃ n, n = (orM k).length := ⟨_, rfl⟩
      rw [← hnk] at CRR ⊢
      obtain ⟨bb, hbb⟩ : ∃ b, b = decide (k < 6) := ⟨_, rfl⟩
      rw [← hbb] at CRR HD
      clear hh hps hu CR HPS HRM hnk hbb HR HL
      go_wp2_with fail
      refine CRR.out.mono ?_
      rintro e x3 ⟨rfl, t3⟩
      have U3 := Lib.hid (HT.out.trans t3 (by simp))
      have B3 := Lib.hid (BR.out.still t3)
      clear t3 CRR BR c0 c1 c2 c3 c4 c5 c6 c7 c8 HT
      go_wp2_with fail
      have e9 : (bb == decide ((k : Int) < 6)) = true := by rw [HD.out]; simp
      rw [e9]
      clear e9 HD
      go_loopw [11, 10] (fun vi vv wx => ∃ (j : Nat) (u : Value), j ≤ n ∧ vi = .int .i64 (j : Int) ∧ u = vv ∧ wx.ownsRow 0 45 2 u (orR j).length (pcells (orR j)) ∧ (∀ g, u.ownBlock = some g → x3.heap.size ≤ g) ∧ Turn [] x3 wx) (fun vi _ _ => n - (intOf vi).toNat)
      case atStart => exact ⟨0, _, by omega, rfl, rfl, World.ownsRow_nil _ _ _ _, (by intro g hg; cases hg), Turn.refl _ _⟩
      case round =>
        obtain ⟨j, u, hj, rfl, rfl, hrow, hlow, ht⟩ := hrel
        have HT := Lib.hid ht
        have HR := Lib.hid hrow
        have HL := Lib.hid hlow
        clear hrow hlow ht
        by_cases hjn : j < n
        · have HX : Hid (orR j ++ [(⟨#[113]⟩, ⟨#[]⟩)] = orR (j + 1)) := Lib.hid (by rw [orR_next]; rfl)
          have T2' := Lib.hid (Turn.alloc [] wr (.cells #[.string ⟨#[113]⟩, .string ⟨#[]⟩] 45))
          have R2 := Lib.hid (ownsRow_turn HR.out T2'.out (by simp))
          have Q2 := Lib.hid (two_of10 (heap_alloc_new wr (.cells #[.string ⟨#[113]⟩, .string ⟨#[]⟩] 45)))
          have HLEN : Hid ((orR j).length ≤ 1000000) := Lib.hid (by rw [orR_len]; omega)
          go_wp2_with (at_builtin; refine append_put rfl (.tmp 55) (.tmp 57) rfl u (orR j) rfl R2.out wr.heap.size (⟨#[113]⟩, ⟨#[]⟩) rfl Q2.out.1 Q2.out.2 HLEN.out ?_; intro v1 w1 r1 g1 o1)
          rw [HX.out] at r1
          have R3 := Lib.hid r1
          have T3 := Lib.hid ((HT.out.trans T2'.out (by simp)).trans (Turn.grown (l := u.ownBlock.toList) g1 (fun k hk => .inl (by simp [hk]))) (fun i hi => .inr (HL.out i (by simpa using hi))))
          have L3 : Hid (∀ g, v1.ownBlock = some g → x3.heap.size ≤ g) := Lib.hid (fun g hg => by
            rcases o1 with e | e
            · exact HL.out g (by rw [← e]; exact hg)
            · rw [e] at hg
              have h1 := (HT.out.trans T2'.out (by simp)).size
              have h2 := Option.some.inj hg
              omega)
          clear r1 g1 o1
          go_wp2_with fail
          go_roundw
          case rel => exact ⟨j + 1, _, by omega, by go_num, rfl, R3.out, L3.out, T3.out⟩
          case measure => simp [intOf]; omega
        · have hjj : j = n := by omega
          subst hjj
          have HRM := Lib.hid (room_q ⟨j, by omega⟩)
          have hps : ∀ ao c, u = .slice ao (orR j).length c → Ps wr ao c (orR j) := fun ao c e => own_ps (by have := HR.out; rwa [e] at this) (put_sz _ (orR_sz j))
          obtain ⟨ao2, c2, hu⟩ := slice_form HR.out
          have HPS := Lib.hid (hps ao2 c2 hu)
          have CR := room_calls (B3.out.is.still HT.out) HPS.out (by show 0 + pending s5 + (orR j).length ≤ 1000000; rw [orR_len]; have : pending s5 = 0 := rfl; omega) qT
          rw [HRM.out, cells_5] at CR
          dsimp only at CR
          have HD : Hid (decide ((j : Int) < 12) = decide (j < 12)) := Lib.hid (decide_eq_decide.2 (by omega))
          have BR := Lib.hid (B3.out.still HT.out)
          have hh := BR.out.head
          rw [cells_5] at hh
          obtain ⟨c0, c1, c2', c3, c4, c5, c6, c7, c8⟩ := nine_of hh
          unfold qT at CR
          have CRR := Lib.hid CR
          rw [hu]
          obtain ⟨nj, hnj⟩ : ∃ n, n = (orR j).length := ⟨_, rfl⟩
          rw [← hnj] at CRR ⊢
          obtain ⟨bb2, hbb⟩ : ∃ b, b = decide (j < 12) := ⟨_, rfl⟩
          rw [← hbb] at CRR HD
          clear hh hps hu CR HPS HRM hnj hbb HR HL
          go_wp2_with fail
          refine CRR.out.mono ?_
          rintro e x4 ⟨rfl, t4⟩
          have U4 := Lib.hid (((T2.out.trans U3.out (by simp)).trans HT.out (by simp)).trans t4 (by simp))
          clear t4 CRR c0 c1 c2' c3 c4 c5 c6 c7 c8
          have e9 : (bb2 == decide ((j : Int) < 12)) = true := by rw [HD.out]; simp
          go_wp2_with fail
          go_ret
          exact ⟨rfl, U4.out.belowAll⟩

end Go.Proofs.YtjhlfjgfohoflaaGreat


/-
  The law 'postillionlaw10.OrderRoom' answers true at every input, and each argument reads behind the call as it read before: for every input, no condition; the frame round the walk 'orderRoom_walk'.
-/
namespace Go.Proofs.YtjhlfjgfohoflaaGreat.orderRoom
open Go.ChangeShapes Go.WideShapes Go.ChangeAt Go.RowKit
open Go.ChangeMaps (open_string shut_string)
set_option linter.unusedVariables false

theorem own : ownKnob Tryz.prog.godebug = none := by kernel_rfl
theorem laidOut : laidOutB Tryz.prog = true := closed.p_laidOutB

set_option maxRecDepth 100000 in
theorem lifted (os : Os) (started : os.Started) (H : Type) (enc : TypeId × Value → H) :
    ReturnsInHanded {} Tryz.checked os 9 .any (Rows.orderRoomSpec.pre6 enc Tryz.prog Tryz.f9 Rows.orderRoomRow.domain false) (Rows.orderRoomSpec.post enc Tryz.prog Tryz.f9 false true false false) := by
  refine returnsInHanded_of_change (C := Tryz.checked) own started (by kernel_rfl) Tryz.func9
    (ChangeSpec.witness6 (enc := enc) (C := Tryz.checked) false ⟨#[], #[.int .i64 0, .int .i64 0], []⟩ 8 (by kernel_rfl) (by kernel_rfl) (by kernel_rfl) (by kernel_rfl)) ?_
  intro W base args ds gs before hval0 hW hcnd _
  have hval : ∀ (j : Nat) t v, Tryz.f9.params[j]? = some t → args[j]? = some v → Value.okWide Tryz.prog W .any base t v := hval0
  have hW' := hW
  obtain ⟨p, q, hA0, hV, rfl, hfz, hnd⟩ := hW
  have hA : DataW.TrodAll enc Tryz.prog W 0 (fun _ => true) true Tryz.f9.params.toList args.toList ds p := hA0
  rw [Tryz.params9] at hA hval
  obtain ⟨v0, vs0, d0, ds0, p0, q0, hargs, rfl, rfl, h0, r0⟩ := trodAll_cons hA
  obtain ⟨v1, vs1, d1, ds1, p1, q1, rfl, rfl, rfl, h1, r1⟩ := trodAll_cons r0
  obtain ⟨rfl, rfl, rfl⟩ := trodAll_nil r1
  obtain rfl : args = #[v0, v1] := by cases args; simp_all
  obtain ⟨rfl, rfl⟩ := trodVars_none hV
  obtain ⟨a0, rfl, rfl, rfl, w0⟩ := open_int Tryz.underlying3 (hval 0 3 v0 rfl rfl) h0
  obtain ⟨a1, rfl, rfl, rfl, w1⟩ := open_int Tryz.underlying3 (hval 1 3 v1 rfl rfl) h1
  clear hA0 hval0
  refine (orderRoom_walk (w := W) a0 w0 a1 w1).mono fun e W' ⟨he, bel⟩ => ?_
  subst he
  exact ⟨_, rfl, _, _, _, [], _, [], hW', trodAll_mk1 (shut_bool Tryz.underlying4 _), (trodAll_cons_mk (shut_int Tryz.underlying3 w0) (trodAll_cons_mk (shut_int Tryz.underlying3 w1) trodAll_mk0)), rfl, bel.frame _, fun h => by cases h⟩

theorem closed0 : (Rows.orderRoomRow.wf (OpenSpec.ofChange Rows.orderRoomSpec) : Bool) = true := by kernel_rfl

theorem closed3 : (Tryz.f9.params.all (Tryz.prog.readableRec ·) : Bool) = true := by kernel_rfl

theorem closed4 : (namedTie Tryz.prog Rows.orderRoomRow.named Rows.orderRoomSpec.vars : Bool) = true := by kernel_rfl

theorem closed5 : ((Rows.orderRoomRow.stops == []) : Bool) = true := by kernel_rfl

theorem closed7 : ((Rows.orderRoomRow.knobs == []) : Bool) = true := by kernel_rfl

theorem closed9 : ((Rows.orderRoomRow.inPlace == Tryz.prog.inPlace 9) : Bool) = true := by kernel_rfl

theorem closed10 : ((Rows.orderRoomRow.unfollowed == Tryz.prog.unfollowed 9) : Bool) = true := by kernel_rfl

theorem closed11 : ((Rows.orderRoomRow.recurses == Tryz.prog.recurses 9) : Bool) = true := by kernel_rfl

theorem closed12 : ((Rows.orderRoomRow.named == Tryz.prog.varsNamed 9) : Bool) = true := by kernel_rfl

theorem closed13 : ((Rows.orderRoomRow.maps == (Tryz.f9.params.toList ++ Rows.orderRoomSpec.plain.varTypes Tryz.prog).any (Tryz.prog.mapsRec ·)) : Bool) = true := by kernel_rfl

theorem closed14 : ((Rows.orderRoomRow.ifaces == (Tryz.f9.params.toList ++ Rows.orderRoomSpec.plain.varTypes Tryz.prog).any (Tryz.prog.ifacesRec ·)) : Bool) = true := by kernel_rfl

theorem closed15 : ((Rows.orderRoomRow.mapsOut == Tryz.prog.mapsAmong Tryz.f9.resultTypes.toList) : Bool) = true := by kernel_rfl

theorem closed16 : ((Rows.orderRoomRow.loops == (Tryz.f9.params.toList ++ Rows.orderRoomSpec.plain.varTypes Tryz.prog).any (Tryz.prog.loopsFrom ·)) : Bool) = true := by kernel_rfl

theorem closed17 : ((Rows.orderRoomRow.wideKeys == (Tryz.f9.params.toList ++ Rows.orderRoomSpec.plain.varTypes Tryz.prog ++ Tryz.f9.resultTypes.toList).any (Tryz.prog.wideKeysFrom ·)) : Bool) = true := by kernel_rfl

theorem closed18 : (Rows.orderRoomSpec.vars.all (Tryz.prog.varReadable ·) : Bool) = true := by kernel_rfl

theorem closed19 : (Tryz.f9.resultTypes.all (fun t => Tryz.prog.readableRec t && decide (t < Tryz.prog.types.size)) : Bool) = true := by kernel_rfl

theorem closed20 : ((Rows.orderRoomRow.ifacesOut == Tryz.f9.resultTypes.toList.any (Tryz.prog.ifacesRec ·)) : Bool) = true := by kernel_rfl

theorem closed21 : ((Rows.orderRoomRow.loopsOut == Tryz.f9.resultTypes.toList.any (Tryz.prog.loopsFrom ·)) : Bool) = true := by kernel_rfl

theorem closed22 : ((Rows.orderRoomRow.plainKeys == Tryz.prog.plainKeys) : Bool) = true := by show (_ == _) = true; rw [closed.plainKeys_is]; kernel_rfl

theorem closed23 : (Rows.orderRoomRow.shortTexts.isNone : Bool) = true := by kernel_rfl

theorem closed26 : ((Rows.orderRoomRow.lifted == Tryz.prog.liftsFinal) : Bool) = true := by show (_ == _) = true; rw [closed.lifted_is]; kernel_rfl

theorem closed27 : ((Tryz.prog.make == some Rows.orderRoomRow.make) : Bool) = true := by show (_ == _) = true; rw [closed.make_is]; kernel_rfl

theorem closed28 : ((Rows.orderRoomRow.kinds == (if Rows.orderRoomRow.domain.isEmpty then [] else Tryz.f9.params.toList.map fun t => match Tryz.prog.underlying t with | some (.int k) => some k | _ => none)) : Bool) = true := by kernel_rfl

theorem closed29 : ((Rows.orderRoomRow.pinned == Rows.orderRoomRow.pinnedBy) : Bool) = true := by kernel_rfl

theorem closed30 : ((Rows.orderRoomRow.veiled == (Tryz.f9.params.toList ++ Rows.orderRoomSpec.plain.varTypes Tryz.prog ++ Tryz.f9.resultTypes.toList).any (Tryz.prog.veiledRec ·)) : Bool) = true := by kernel_rfl

theorem closed31 : (Rows.orderRoomRow.veiledFits Tryz.prog Tryz.f9.params.toList (Tryz.f9.params.toList ++ Rows.orderRoomSpec.plain.varTypes Tryz.prog ++ Tryz.f9.resultTypes.toList) : Bool) = true := by kernel_rfl

set_option maxRecDepth 100000 in
theorem closedAll : joinedFacts Tryz.prog 9 Tryz.f9 Rows.orderRoomSpec Rows.orderRoomRow = true :=
  joinMk.joined_mk closed0 closed.p_laidOutB closed.p_mapsRowed closed3 closed4 closed5 closed.p_stops closed7 closed.p_stopKnobs closed9 closed10 closed11 closed12 closed13 closed14 closed15 closed16 closed17 closed18 closed19 closed20 closed21 closed22 closed23 closed.p_stopsHeard closed.p_mayEnter closed26 closed27 closed28 closed29 closed30 closed31

theorem over : Rows.orderRoomRow.holds Tryz.pinned (OpenSpec.ofChange Rows.orderRoomSpec) :=
  OpenClaim.holds_of_wide 9 Tryz.f9 rfl rfl rfl rfl rfl rfl rfl ⟨rfl, rfl, rfl, rfl, rfl⟩ rfl rfl rfl rfl rfl (by kernel_rfl) Tryz.func9 closedAll
    (of_decide_eq_true (by kernel_rfl)) (by unfold Func.isWrapper; first | (rw [if_pos (by decide +kernel)]; kernel_rfl) | (rw [if_neg (by decide +kernel)]; exact ⟨rfl, rfl⟩))
    (fun os started H enc _ => lifted os started H enc)

/-- The statement. -/
theorem proved : Rows.OrderRoomSaid := over
end Go.Proofs.YtjhlfjgfohoflaaGreat.orderRoom
