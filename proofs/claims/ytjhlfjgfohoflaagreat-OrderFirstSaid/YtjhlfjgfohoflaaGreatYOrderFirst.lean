/-
  Of the texts Ofs OrderFirstWalk OrderFirst, in build order, each as it was built alone.
-/
import Derived.Test.YtjhlfjgfohoflaaGreatPkAX
import Derived.Test.YtjhlfjgfohoflaaGreatPkAO
import Derived.Test.YtjhlfjgfohoflaaGreatPkBD
import Derived.Test.YtjhlfjgfohoflaaGreatPkBE
import Derived.Test.YtjhlfjgfohoflaaGreatPkBF
import Derived.Test.YtjhlfjgfohoflaaGreatPkAW
import Derived.Test.YtjhlfjgfohoflaaGreatRows
import Derived.ProofKit
import Derived.OpenShut
import Derived.ShutString
import Derived.ChangeOld
import Derived.Below

/-
  The states of OrderFirst, as values.
-/
namespace Go.Proofs.YtjhlfjgfohoflaaGreat
open Go.RowKit Go.Proofs.YtjhlfjgfohoflaaGreat.V

def idF (j : Nat) : Int := 17179869185 + (j : Int)
def bodyF (j : Nat) : ByteArray := ⟨#[UInt8.ofNat (97 + j)]⟩
def msgF (cnt by_ : Nat → Int) (j : Nat) : MsgV := ⟨idF j, qT, bodyF j, (j : Int) + 1, cnt j, by_ j⟩
def msF (n : Nat) (cnt by_ : Nat → Int) : List MsgV := (List.range n).map (msgF cnt by_)
def putsF (n : Nat) : List (ByteArray × ByteArray) := (List.range n).map fun j => (qT, bodyF j)
def rpF (n : Nat) : RecV := ⟨4, 4294967297, 0, false, [], putsF n⟩
def rdF : RecV := ⟨5, 4294967297, 0, true, [], []⟩
def s0F : StV := ⟨4, 1, 1, 0, [], [], [], [], []⟩
def spF (n : Nat) : StV := ⟨4, 1, 1, 0, [], [⟨4294967297, putsF n⟩], [], [], []⟩
def soF (n : Nat) : StV := ⟨4, (n : Int) + 1, (n : Int) + 1, 0, msF n (fun _ => 0) (fun _ => 0), [], [⟨4294967297, true⟩], [], []⟩
def tF (i : Nat) : Int := 4294967298 + (i : Int)
def rtF (i j : Nat) : RecV := ⟨2, tF i, idF j, false, [], []⟩
def rbF (i : Nat) : RecV := ⟨3, tF i, 0, false, [], []⟩
def upd (f : Nat → Int) (a : Nat) (v : Int) : Nat → Int := fun j => if j = a then v else f j

theorem newF : newS 4 = s0F := (eqStB_iff _ _).1 (by decide +kernel)
theorem m0F : MayP s0F := mayB_iff.1 (by decide +kernel)
theorem mpF' : ∀ n : Fin 11, mayB (spF n.1) = true := by decide +kernel
theorem moF' : ∀ n : Fin 11, mayB (soF n.1) = true := by decide +kernel
theorem stpF' : ∀ n : Fin 11, eqStB (applyS s0F (rpF n.1)) (spF n.1) = true := by decide +kernel
theorem stdF' : ∀ n : Fin 11, eqStB (applyS (spF n.1) rdF) (soF n.1) = true := by decide +kernel
theorem mpF {n : Nat} (h : n ≤ 10) : MayP (spF n) := mayB_iff.1 (mpF' ⟨n, by omega⟩)
theorem moF {n : Nat} (h : n ≤ 10) : MayP (soF n) := mayB_iff.1 (moF' ⟨n, by omega⟩)
theorem stpF {n : Nat} (h : n ≤ 10) : applyS s0F (rpF n) = spF n := (eqStB_iff _ _).1 (stpF' ⟨n, by omega⟩)
theorem stdF {n : Nat} (h : n ≤ 10) : applyS (spF n) rdF = soF n := (eqStB_iff _ _).1 (stdF' ⟨n, by omega⟩)
theorem recT' : ∀ i : Fin 41, ∀ j : Fin 11, recB (rtF i.1 j.1) = true := by decide +kernel
theorem recB' : ∀ i : Fin 41, recB (rbF i.1) = true := by decide +kernel

theorem find_range {n a : Nat} {f : Nat → MsgV} {p : MsgV → Bool} (h : a < n) (hp : p (f a) = true) (hn : ∀ j, j < a → p (f j) = false) : ((List.range n).map f).find? p = some (f a) := by
  rw [List.find?_map, (List.find?_range_eq_some (p := p ∘ f) (i := a)).2 ⟨hp, by simpa using h, fun j hj => by simp [hn j hj]⟩]
  rfl

theorem find_range_none {n : Nat} {f : Nat → MsgV} {p : MsgV → Bool} (hn : ∀ j, j < n → p (f j) = false) : ((List.range n).map f).find? p = none := by
  rw [List.find?_map, (List.find?_range_eq_none (p := p ∘ f)).2 (fun j hj => by simp [hn j hj])]
  rfl

/-- Behind i steps: a is the place of the next one. -/
structure OF (n i a : Nat) (cnt by_ : Nat → Int) (s : StV) : Prop where
  le : a ≤ n
  may : MayP s
  roomy : Roomy s
  ms : s.ms = msF n cnt by_
  br : s.broker = 4
  waits : s.waits = []
  opn : s.open_ = []
  ends : ∀ e ∈ s.ends, e.tid < tF i
  lends : s.ends.length ≤ i + 1
  done : ∀ j, j < a → by_ j ≠ 0 ∨ 3 ≤ cnt j
  free : a < n → by_ a = 0 ∧ 0 ≤ cnt a ∧ cnt a < 3
  rest : ∀ j, a < j → by_ j = 0 ∧ cnt j = 0
  bys : ∀ j, by_ j < tF i

theorem OF.start {n : Nat} (hn : n ≤ 10) : OF n 0 0 (fun _ => 0) (fun _ => 0) (soF n) := by
  refine ⟨Nat.zero_le _, moF hn, ⟨?_, ?_, ?_⟩, rfl, rfl, rfl, rfl, ?_, ?_, ?_, ?_, ?_, ?_⟩
  · simp [soF, msF, pending]; omega
  · simp [soF, pending]; omega
  · simp [soF, pending]; omega
  · intro e he
    simp [soF] at he
    subst he
    decide
  · simp [soF]
  · intro j hj; omega
  · intro _; simp
  · intro j _; simp
  · intro j; simp [tF]

theorem OF.next {n i a : Nat} {cnt by_ : Nat → Int} {s : StV} (h : OF n i a cnt by_ s) (ha : a < n) : bestM qT s.ms = some (msgF cnt by_ a) := by
  rw [bestM_is h.may.seqs, h.ms]
  obtain ⟨f1, f2, f3⟩ := h.free ha
  refine find_range ha ?_ ?_
  · simp [freeB, deadB, msgF, f1]; omega
  · intro j hj
    rcases h.done j hj with e | e
    · simp [freeB, msgF, e]
    · by_cases e2 : by_ j = 0
      · simp [freeB, deadB, msgF, e, e2]
      · simp [freeB, msgF, e2]

theorem OF.none {n i : Nat} {cnt by_ : Nat → Int} {s : StV} (h : OF n i n cnt by_ s) : bestM qT s.ms = none := by
  rw [bestM_is h.may.seqs, h.ms]
  refine find_range_none ?_
  intro j hj
  rcases h.done j hj with e | e
  · simp [freeB, msgF, e]
  · by_cases e2 : by_ j = 0
    · simp [freeB, deadB, msgF, e, e2]
    · simp [freeB, msgF, e2]

theorem OF.canT {n i a : Nat} {cnt by_ : Nat → Int} {s : StV} (h : OF n i a cnt by_ s) (ha : a < n) (hn : n ≤ 10) (hi : i < 40) : canE s (rtF i a) = 0 := by
  have h1 : recB (rtF i a) = true := recT' ⟨i, by omega⟩ ⟨a, by omega⟩
  have h2 : keyB EndV.tid s.ends (tF i) = false := keyB_not.2 (fun e he => by have := h.ends e he; omega)
  have h3 : msgOf s (idF a) = some (msgF cnt by_ a) := by
    unfold msgOf
    rw [h.ms]
    exact find_range ha (by simp [msgF]) (fun j hj => by simp [msgF, idF]; omega)
  unfold canE
  rw [if_neg (by rw [h1]; simp), if_neg (by rintro ⟨-, e⟩; rw [show (rtF i a).tid = tF i from rfl, h2] at e; cases e), if_pos (show (rtF i a).kind = 2 from rfl), show (rtF i a).id = idF a from rfl, h3]
  dsimp only
  rw [if_neg (by simp [h.waits, h.opn, keyB, msgF, (h.free ha).1])]
  unfold fullE
  rw [if_neg (by simp [rtF])]

theorem OF.takeS {n i a : Nat} {cnt by_ : Nat → Int} {s : StV} (h : OF n i a cnt by_ s) (ha : a < n) (hn : n ≤ 10) (hi : i < 40) : applyS s (rtF i a) = { s with ms := msF n cnt (upd by_ a (tF i)) } := by
  unfold applyS
  rw [if_pos ⟨mayB_iff.2 h.may, h.canT ha hn hi⟩]
  unfold layS
  rw [if_neg (by show ¬ (2 : Int) = 1; decide), if_pos (show (rtF i a).kind = 2 from rfl)]
  refine congrArg (fun l => { s with ms := l }) ?_
  rw [h.ms]
  unfold msF
  rw [List.map_map]
  refine List.map_congr_left fun j hj => ?_
  show (if (msgF cnt by_ j).id = idF a then { msgF cnt by_ j with by_ := tF i } else msgF cnt by_ j) = _
  by_cases e : j = a
  · subst e
    rw [if_pos (show (msgF cnt by_ j).id = idF j from rfl)]
    simp [msgF, upd]
  · rw [if_neg (by simp [msgF, idF]; omega)]
    simp [msgF, upd, e]

theorem upd_at (f : Nat → Int) (a : Nat) (v : Int) : upd f a v a = v := by simp [upd]
theorem upd_off {f : Nat → Int} {a j : Nat} {v : Int} (h : j ≠ a) : upd f a v j = f j := by simp [upd, h]
theorem tF_next (i : Nat) : tF (i + 1) = tF i + 1 := by unfold tF; omega

/-- It stays with the one who took it. -/
theorem OF.stays {n i a : Nat} {cnt by_ : Nat → Int} {s : StV} (h : OF n i a cnt by_ s) (ha : a < n) (hn : n ≤ 10) (hi : i < 40) : OF n (i + 1) (a + 1) cnt (upd by_ a (tF i)) (applyS s (rtF i a)) := by
  have hm := applyS_may (rtF i a) h.may h.roomy
  have e := h.takeS ha hn hi
  refine ⟨by omega, hm.1, hm.2, by rw [e], by rw [e]; exact h.br, by rw [e]; exact h.waits, by rw [e]; exact h.opn, ?_, ?_, ?_, ?_, ?_, ?_⟩
  · rw [e]
    intro x hx
    have := h.ends x hx
    rw [tF_next]; omega
  · rw [e]
    have := h.lends
    show s.ends.length ≤ _
    omega
  · intro j hj
    by_cases q : j = a
    · subst q
      rw [upd_at]
      left
      unfold tF; omega
    · rw [upd_off q]
      exact h.done j (by omega)
  · intro _
    rw [upd_off (by omega)]
    obtain ⟨q1, q2⟩ := h.rest (a + 1) (by omega)
    rw [q1, q2]
    simp
  · intro j hj
    rw [upd_off (by omega)]
    exact h.rest j (by omega)
  · intro j
    rw [tF_next]
    by_cases q : j = a
    · subst q
      rw [upd_at]; omega
    · rw [upd_off q]
      have := h.bys j
      omega

theorem OF.canB {n i a : Nat} {cnt by_ : Nat → Int} {s : StV} (h : OF n i a cnt by_ s) (hi : i < 40) : canE { s with ms := msF n cnt (upd by_ a (tF i)) } (rbF i) = 0 := by
  have h1 : recB (rbF i) = true := recB' ⟨i, by omega⟩
  have h2 : keyB EndV.tid s.ends (tF i) = false := keyB_not.2 (fun e he => by have := h.ends e he; omega)
  unfold canE
  rw [if_neg (by rw [h1]; simp), if_neg (by rintro ⟨-, e⟩; rw [show (rbF i).tid = tF i from rfl, h2] at e; cases e), if_neg (by show ¬ (3 : Int) = 2; decide), if_neg (by show ¬ (3 : Int) = 5; decide), if_neg (by show ¬ (3 : Int) = 9; decide), if_neg (by show ¬ (3 : Int) = 1; decide), if_neg (by show ¬ ((3 : Int) = 6 ∨ (3 : Int) = 7 ∨ (3 : Int) = 8); decide), if_neg (by show ¬ (3 : Int) = 4; decide), if_pos (show (rbF i).kind = 3 from rfl)]
  rw [if_neg (by simp [h.waits, h.opn, keyB])]
  unfold fullE
  have hl := h.lends
  rw [if_neg (by simp [rbF]; omega)]

theorem OF.backS {n i a : Nat} {cnt by_ : Nat → Int} {s : StV} (h : OF n i a cnt by_ s) (ha : a < n) (hn : n ≤ 10) (hi : i < 40) : applyS (applyS s (rtF i a)) (rbF i) = { s with ms := msF n (upd cnt a (cnt a + 1)) by_, ends := insK EndV.tid ⟨tF i, false⟩ s.ends } := by
  have hm := applyS_may (rtF i a) h.may h.roomy
  rw [h.takeS ha hn hi] at hm ⊢
  rw [applyS, if_pos ⟨mayB_iff.2 hm.1, h.canB hi⟩]
  unfold layS
  rw [if_neg (by show ¬ (3 : Int) = 1; decide), if_neg (by show ¬ (3 : Int) = 2; decide), if_pos (show (rbF i).kind = 3 from rfl)]
  unfold endS
  have e1 : left (tF i) false (msF n cnt (upd by_ a (tF i))) = msF n (upd cnt a (cnt a + 1)) by_ := by
    rw [left_false]
    unfold msF
    rw [List.map_map]
    refine List.map_congr_left fun j hj => ?_
    show backIf (tF i) (msgF cnt (upd by_ a (tF i)) j) = _
    unfold backIf
    by_cases e : j = a
    · subst e
      obtain ⟨f1, f2, f3⟩ := h.free ha
      rw [if_pos (by simp [msgF, upd])]
      simp only [msgF, back, upd_at, f1]
      rw [show min 1000 (cnt j + 1) = cnt j + 1 by omega]
    · have hb := h.bys j
      rw [if_neg (by simp [msgF, upd, e]; omega)]
      simp [msgF, upd, e]
  simp only [show (rbF i).tid = tF i from rfl, e1, h.waits, h.opn, remK, Bool.false_eq_true, if_false, List.append_nil, List.eraseP_nil, Int.add_zero]

/-- It is given back. -/
theorem OF.back {n i a : Nat} {cnt by_ : Nat → Int} {s : StV} (h : OF n i a cnt by_ s) (ha : a < n) (hn : n ≤ 10) (hi : i < 40) : OF n (i + 1) (if cnt a + 1 = 3 then a + 1 else a) (upd cnt a (cnt a + 1)) by_ (applyS (applyS s (rtF i a)) (rbF i)) := by
  have hm0 := applyS_may (rtF i a) h.may h.roomy
  have hm := applyS_may (rbF i) hm0.1 hm0.2
  have e := h.backS ha hn hi
  obtain ⟨f1, f2, f3⟩ := h.free ha
  refine ⟨by split <;> omega, hm.1, hm.2, by rw [e], by rw [e]; exact h.br, by rw [e]; exact h.waits, by rw [e]; exact h.opn, ?_, ?_, ?_, ?_, ?_, ?_⟩
  · rw [e]
    intro x hx
    rw [tF_next]
    rcases insK_mem.1 hx with rfl | hx
    · show tF i < _
      omega
    · have := h.ends x hx
      omega
  · rw [e]
    have := h.lends
    show (insK EndV.tid ⟨tF i, false⟩ s.ends).length ≤ _
    rw [insK_len]; omega
  · intro j hj
    by_cases q : j = a
    · subst q
      right
      rw [upd_at]
      split at hj <;> omega
    · rw [upd_off q]
      refine h.done j ?_
      split at hj <;> omega
  · intro hlt
    split
    · rw [upd_off (by omega)]
      obtain ⟨q1, q2⟩ := h.rest (a + 1) (by omega)
      rw [q1, q2]
      simp
    · rw [upd_at]
      exact ⟨f1, by omega, by omega⟩
  · intro j hj
    have hj2 : a < j := by split at hj <;> omega
    rw [upd_off (by omega)]
    exact h.rest j hj2
  · intro j
    rw [tF_next]
    have := h.bys j
    omega

end Go.Proofs.YtjhlfjgfohoflaaGreat

/-
  The walk of the law OrderFirst.
-/
namespace Go.Proofs.YtjhlfjgfohoflaaGreat
open Go.RowKit Go.Proofs.YtjhlfjgfohoflaaGreat.V

theorem tmod10 (c : Int) : -9 ≤ c.tmod 10 ∧ c.tmod 10 ≤ 9 := by
  have h1 := Int.tmod_lt_of_pos c (b := 10) (by omega)
  have h2 := Int.lt_tmod_of_pos c (b := 10) (by omega)
  omega

theorem Tryz.introw10 : (Tryz.prog.info? 3).map (fun i => (i.zero, i.size, i.bytes)) = some (some (.int .i64 0), 1, 8) := by kernel_rfl

theorem make_ints10 (w : World) (n : Nat) (hn : n ≤ 1000000) : (Instr.makeSlice 34 (.int .i64 (n : Int)) (.int .i64 (n : Int))).run Tryz.prog w = .ok (.slice (some ⟨w.heap.size, 0, none⟩) n n) (w.alloc (.cells (madeCells #[.int .i64 0] n) 3)) := by
  obtain ⟨i0, hi, hz0, hz1, hz2⟩ := info_parts Tryz.introw10
  have h := run_make (P := Tryz.prog) w 34 3 i0 (.int .i64 0) Tryz.underlying34 hi hz0 .i64 .i64 (n : Int) (n : Int) (by omega) (by omega) (by rw [hz2]; omega) (by omega)
  rw [hz1] at h
  simp only [Int.toNat_natCast, Nat.mul_one] at h
  exact h

theorem putsF_next (k : Nat) : putsF (k + 1) = putsF k ++ [(qT, bodyF k)] := by simp [putsF, List.range_succ]
theorem putsF_len (k : Nat) : (putsF k).length = k := by simp [putsF]
theorem putsF_at {k j : Nat} (h : j < k) : (putsF k).getD j putNone = (qT, bodyF j) := by simp [putsF, List.getD, h]
theorem putsF_sz (k : Nat) : ∀ i, i < (putsF k).length → ((putsF k).getD i putNone).1.size ≤ 9223372036854775807 ∧ ((putsF k).getD i putNone).2.size ≤ 9223372036854775807 := fun i hi => by
  rw [putsF_len] at hi
  rw [putsF_at hi]
  exact ⟨by show 1 ≤ _; omega, by show 1 ≤ _; omega⟩

set_option maxHeartbeats 16000000 in
set_option maxRecDepth 100000 in
theorem orderFirst_walk {w : World} (n0 : Int) (_ : (Lit.int .i64 n0).wf = true) (ao : Option Addr) (c : Nat) (l : List Bool) (hl : Bl w ao c l) : Calls Tryz.prog 8 #[.int .i64 n0, .slice ao l.length c] w fun e w' => e = .returned (.bool true) ∧ Below w.heap.size w w' := by
  have CB := Lib.hid (begun10_calls w)
  have HL := Lib.hid hl
  have hlen := hl.len
  clear hl
  have hr1 := tmod10 n0
  obtain ⟨z, hz⟩ : ∃ z, Int.tmod n0 10 = z := ⟨_, rfl⟩
  rw [hz] at hr1
  obtain ⟨j, hj, hjm, hj9⟩ : ∃ j : Nat, Int.tmod (z + 10) 10 = (j : Int) ∧ (z + 10) % 10 = (j : Int) ∧ j ≤ 9 := ⟨((z + 10) % 10).toNat, by rw [Int.tmod_eq_emod_of_nonneg (by omega)]; omega, by omega, by omega⟩
  obtain ⟨n, hn⟩ : ∃ n : Nat, n = 1 + j := ⟨_, rfl⟩
  have hnj : (1 : Int) + (j : Int) = (n : Int) := by omega
  have hn10 : n ≤ 10 := by omega
  have hn1 : 1 ≤ n := by omega
  clear hn
  go_enter Tryz.func8, Tryz.ntmps8
  go_wp2_with fail
  refine CB.out.mono ?_
  rintro e x1 ⟨rfl, t1⟩
  have CN := Lib.hid (stNew_calls 4 x1)
  rw [newF] at CN
  have T1 := Lib.hid t1
  obtain ⟨aN, haN⟩ : ∃ a, a = noAds := ⟨_, rfl⟩
  rw [← haN] at CN
  clear haN t1 CB
  go_wp2_with fail
  refine CN.out.mono ?_
  rintro e xN ⟨rfl, isN, tN⟩
  have nb := Bx.new isN
  rw [show s0F.cells aN = #[.int .i64 4, .int .i64 1, .int .i64 1, .int .i64 0, .slice aN.m 0 aN.cm, .slice aN.w 0 aN.cw, .slice aN.e 0 aN.ce, .slice aN.o 0 aN.co, .slice aN.n 0 aN.cn] from rfl] at nb
  have ta := Turn.alloc [] xN (.cells #[.int .i64 4, .int .i64 1, .int .i64 1, .int .i64 0, .slice aN.m 0 aN.cm, .slice aN.w 0 aN.cw, .slice aN.e 0 aN.ce, .slice aN.o 0 aN.co, .slice aN.n 0 aN.cn] 27)
  have TN := Lib.hid ((T1.out.trans tN (by simp)).trans ta (by simp))
  have HB0 : Hid (w.heap.size ≤ xN.heap.size) := Lib.hid (T1.out.trans tN (by simp)).size
  have BN := Lib.hid nb
  rw [show s0F.cells aN = #[.int .i64 4, .int .i64 1, .int .i64 1, .int .i64 0, .slice aN.m 0 aN.cm, .slice aN.w 0 aN.cw, .slice aN.e 0 aN.ce, .slice aN.o 0 aN.co, .slice aN.n 0 aN.cn] from rfl]
  clear nb ta isN tN T1 CN
  go_wp2_with fail
  generalize hy : xN.alloc (.cells #[.int .i64 4, .int .i64 1, .int .i64 1, .int .i64 0, .slice aN.m 0 aN.cm, .slice aN.w 0 aN.cw, .slice aN.e 0 aN.ce, .slice aN.o 0 aN.co, .slice aN.n 0 aN.cn] 27) = y at *
  obtain ⟨b, hb⟩ : ∃ b, b = xN.heap.size := ⟨_, rfl⟩
  have HSY : Hid (y.heap.size = b + 1) := Lib.hid (by rw [← hy, hb]; simp)
  rw [← hb] at BN HB0 ⊢
  clear hy hb hz hr1 hj hjm hj9 hnj
  go_loopw [8, 7] (fun vi vv wx => ∃ (k : Nat) (u : Value), k ≤ n ∧ vi = .int .i64 (k : Int) ∧ u = vv ∧ wx.ownsRow 0 45 2 u (putsF k).length (pcells (putsF k)) ∧ (∀ g, u.ownBlock = some g → y.heap.size ≤ g) ∧ Turn [] y wx) (fun vi _ _ => n - (intOf vi).toNat)
  case atStart => exact ⟨0, _, by omega, rfl, rfl, World.ownsRow_nil _ _ _ _, (by intro g hg; cases hg), Turn.refl _ _⟩
  case round =>
    obtain ⟨k, u, hk, rfl, rfl, hrow, hlow, ht⟩ := hrel
    have HT := Lib.hid ht
    have HR := Lib.hid hrow
    have HLO := Lib.hid hlow
    clear hrow hlow ht
    by_cases hkm : k < n
    · have hw8 : IntKind.u8.wrap (97 + (k : Int)) = 97 + (k : Int) := by rw [IntKind.wrap_u8]; omega
      have W1 := Turn.alloc [] wr (.cells #[.int .u8 (97 + (k : Int))] 5)
      have sl := Sl.made wr #[.int .u8 (97 + (k : Int))] 5 [UInt8.ofNat (97 + k)] (by
        have : ((UInt8.ofNat (97 + k)).toNat : Int) = 97 + (k : Int) := by
          have := u8_ofNat (n := 97 + (k : Int)) (by omega) (by omega)
          rwa [show (97 + (k : Int)).toNat = 97 + k by omega] at this
        show [Value.int .u8 (97 + (k : Int))] = [Value.int .u8 ((UInt8.ofNat (97 + k)).toNat : Int)]
        rw [this]) (by simp [maxLen])
      have cv := conv10 sl (n := 1) rfl
      have hcv : (convert 52 9 (.slice (some ⟨wr.heap.size, 0, none⟩) 1 1)).run Tryz.prog (wr.alloc (.cells #[.int .u8 (97 + (k : Int))] 5)) = .ok (.string (bodyF k)) (wr.alloc (.cells #[.int .u8 (97 + (k : Int))] 5)) := cv
      have e1 : (wr.alloc (.cells #[.int .u8 (97 + (k : Int))] 5)).heap.size = wr.heap.size + 1 := by simp
      obtain ⟨nm, hnm⟩ : ∃ x, x = bodyF k := ⟨_, rfl⟩
      have HX : Hid (putsF k ++ [(⟨#[113]⟩, nm)] = putsF (k + 1)) := Lib.hid (by rw [hnm, putsF_next]; rfl)
      rw [← hnm] at hcv
      clear hnm sl cv
      have T2' := Lib.hid (W1.trans (Turn.alloc [] _ (.cells #[.string ⟨#[113]⟩, .string nm] 45)) (by simp))
      have R2 := Lib.hid (ownsRow_turn HR.out T2'.out (by simp))
      have B2 := heap_alloc_new (wr.alloc (.cells #[.int .u8 (97 + (k : Int))] 5)) (.cells #[.string ⟨#[113]⟩, .string nm] 45)
      rw [e1] at B2
      have Q2 := Lib.hid (two_of10 B2)
      have HLEN : Hid ((putsF k).length ≤ 1000000) := Lib.hid (by rw [putsF_len]; omega)
      clear B2 e1 W1
      go_wp2_with (at_builtin; refine append_put rfl (.tmp 29) (.tmp 36) rfl u (putsF k) rfl R2.out (wr.heap.size + 1) (⟨#[113]⟩, nm) rfl Q2.out.1 Q2.out.2 HLEN.out ?_; intro v1 w1 r1 g1 o1)
      rw [HX.out] at r1
      have R3 := Lib.hid r1
      have T3 := Lib.hid ((HT.out.trans T2'.out (by simp)).trans (Turn.grown (l := u.ownBlock.toList) g1 (fun k hk => .inl (by simp [hk]))) (fun i hi => .inr (HLO.out i (by simpa using hi))))
      have L3 : Hid (∀ g, v1.ownBlock = some g → y.heap.size ≤ g) := Lib.hid (fun g hg => by
        rcases o1 with e | e
        · exact HLO.out g (by rw [← e]; exact hg)
        · rw [e] at hg
          have h1 := (HT.out.trans T2'.out (by simp)).size
          have h2 := Option.some.inj hg
          omega)
      clear r1 g1 o1
      go_wp2_with fail
      go_roundw
      case rel => exact ⟨k + 1, _, by omega, by go_num, rfl, R3.out, L3.out, T3.out⟩
      case measure => simp [intOf]; omega
    · have hkk : k = n := by omega
      subst hkk
      obtain ⟨ap, cp, hu⟩ := slice_form HR.out
      rw [hu] at HR HLO ⊢
      clear hu hk hkm
      have HPS := Lib.hid (own_ps HR.out (putsF_sz k))
      obtain ⟨g, off, rfl, -, hat⟩ := HPS.out.at (by intro e; have := congrArg List.length e; rw [putsF_len] at this; simp at this; omega)
      have HGB : Hid (b < g) := Lib.hid (by have := HLO.out g rfl; have := HSY.out; omega)
      have HBD : Hid (∀ j, j < k → wr.cell? ⟨g, off + j * 2 + 1, none⟩ = some (.string (bodyF j))) := Lib.hid (fun j hj => by
        have := (hat j (by rw [putsF_len]; exact hj)).2.1
        rwa [putsF_at hj] at this)
      have HG : Hid (g < wr.heap.size) := Lib.hid (World.block_lt_of_cell? _ _ (HBD.out 0 (by omega)))
      have C := apply_rows (BN.out.is.still HT.out) m0F (rpF k) none (some ⟨g, off, none⟩) 0 cp (il_none _) HPS.out (by show okI 4294967297; unfold okI; decide) (by show okI 0; unfold okI; decide) (stpF hn10)
      rw [show s0F.cells aN = #[.int .i64 4, .int .i64 1, .int .i64 1, .int .i64 0, .slice aN.m 0 aN.cm, .slice aN.w 0 aN.cw, .slice aN.e 0 aN.ce, .slice aN.o 0 aN.co, .slice aN.n 0 aN.cn] from rfl, show (rpF k).cells none 0 (some ⟨g, off, none⟩) cp = #[.int .i64 4, .int .i64 4294967297, .int .i64 0, .bool false, .slice none 0 0, .slice (some ⟨g, off, none⟩) (putsF k).length cp] from rfl] at C
      have HNK : Hid ((putsF k).length = k) := Lib.hid (putsF_len k)
      obtain ⟨nk, hnk⟩ : ∃ n, n = (putsF k).length := ⟨_, rfl⟩
      rw [← hnk] at C HNK HR HLO ⊢
      have HNK2 := HNK.out
      subst HNK2
      have C1 := Lib.hid C
      have BR := Lib.hid (BN.out.still HT.out)
      have TR := Lib.hid (TN.out.trans HT.out (by simp))
      have hh := BR.out.head
      rw [show s0F.cells aN = #[.int .i64 4, .int .i64 1, .int .i64 1, .int .i64 0, .slice aN.m 0 aN.cm, .slice aN.w 0 aN.cw, .slice aN.e 0 aN.ce, .slice aN.o 0 aN.co, .slice aN.n 0 aN.cn] from rfl] at hh
      obtain ⟨c0, c1, c2, c3, c4, c5, c6, c7, c8⟩ := nine_of hh
      clear hh C hnk HR HLO HPS hat BN TN HT HSY HNK
      go_wp2_with fail
      clear c0 c1 c2 c3 c4 c5 c6 c7 c8
      refine C1.out.mono ?_
      rintro e xA ⟨aA, LWA, LOA, LNA, rfl, rA, tA⟩
      have C := apply_rows (rA.is (mpF hn10).deep) (mpF hn10) rdF none none 0 0 (il_none _) (ps_none _) (by show okI 4294967297; unfold okI; decide) (by show okI 0; unfold okI; decide) (stdF hn10)
      rw [show rdF.cells none 0 none 0 = #[.int .i64 5, .int .i64 4294967297, .int .i64 0, .bool true, .slice none 0 0, .slice none 0 0] from rfl] at C
      have C2 := Lib.hid C
      have TA := Lib.hid tA
      obtain ⟨s1, hs1⟩ : ∃ s, s = soF nk := ⟨_, rfl⟩
      have HOF : Hid (OF nk 0 0 (fun _ => 0) (fun _ => 0) s1) := Lib.hid (by rw [hs1]; exact OF.start hn10)
      rw [← hs1] at C2
      generalize (spF nk).cells aA = cA at *
      clear hs1 C C1 rA tA
      go_wp2_with fail
      refine C2.out.mono ?_
      rintro e xB ⟨aB, LW, LO, LN, rfl, rB, tB⟩
      have BX := Lib.hid (BR.out.still (TA.out.trans tB (by simp)))
      have sx := bx_store BX.out rB HOF.out.may
      have SX : Hid (Bx (((((((((xB.setCell ⟨b, 0, none⟩ (.int .i64 s1.broker)).setCell ⟨b, 1, none⟩ (.int .i64 s1.nextId)).setCell ⟨b, 2, none⟩ (.int .i64 s1.nextSeq)).setCell ⟨b, 3, none⟩ (.int .i64 s1.tx)).setCell ⟨b, 4, none⟩ (.slice aB.m s1.ms.length aB.cm)).setCell ⟨b, 5, none⟩ (.slice aB.w s1.waits.length aB.cw)).setCell ⟨b, 6, none⟩ (.slice aB.e s1.ends.length aB.ce)).setCell ⟨b, 7, none⟩ (.slice aB.o s1.open_.length aB.co)).setCell ⟨b, 8, none⟩ (.slice aB.n s1.noes.length aB.cn)) b aB s1 ∧ Turn [b] xB (((((((((xB.setCell ⟨b, 0, none⟩ (.int .i64 s1.broker)).setCell ⟨b, 1, none⟩ (.int .i64 s1.nextId)).setCell ⟨b, 2, none⟩ (.int .i64 s1.nextSeq)).setCell ⟨b, 3, none⟩ (.int .i64 s1.tx)).setCell ⟨b, 4, none⟩ (.slice aB.m s1.ms.length aB.cm)).setCell ⟨b, 5, none⟩ (.slice aB.w s1.waits.length aB.cw)).setCell ⟨b, 6, none⟩ (.slice aB.e s1.ends.length aB.ce)).setCell ⟨b, 7, none⟩ (.slice aB.o s1.open_.length aB.co)).setCell ⟨b, 8, none⟩ (.slice aB.n s1.noes.length aB.cn))) := Lib.hid sx
      have TX := Lib.hid (TA.out.trans tB (by simp))
      have hh := BX.out.head
      rw [show s0F.cells aN = #[.int .i64 4, .int .i64 1, .int .i64 1, .int .i64 0, .slice aN.m 0 aN.cm, .slice aN.w 0 aN.cw, .slice aN.e 0 aN.ce, .slice aN.o 0 aN.co, .slice aN.n 0 aN.cn] from rfl] at hh
      obtain ⟨c0, c1, c2, c3, c4, c5, c6, c7, c8⟩ := nine_of hh
      have f0 : ∀ j, xB.frozen? ⟨b, j, none⟩ = false := fun j => unfrozen_of hh
      rw [show s1.cells aB = #[.int .i64 s1.broker, .int .i64 s1.nextId, .int .i64 s1.nextSeq, .int .i64 s1.tx, .slice aB.m s1.ms.length aB.cm, .slice aB.w s1.waits.length aB.cw, .slice aB.e s1.ends.length aB.ce, .slice aB.o s1.open_.length aB.co, .slice aB.n s1.noes.length aB.cn] from rfl]
      clear C2 sx rB tB hh BR TA
      go_upto_region 12 with fail
      clear c0 c1 c2 c3 c4 c5 c6 c7 c8 f0 BX
      generalize hy : (((((((((xB.setCell ⟨b, 0, none⟩ (.int .i64 s1.broker)).setCell ⟨b, 1, none⟩ (.int .i64 s1.nextId)).setCell ⟨b, 2, none⟩ (.int .i64 s1.nextSeq)).setCell ⟨b, 3, none⟩ (.int .i64 s1.tx)).setCell ⟨b, 4, none⟩ (.slice aB.m s1.ms.length aB.cm)).setCell ⟨b, 5, none⟩ (.slice aB.w s1.waits.length aB.cw)).setCell ⟨b, 6, none⟩ (.slice aB.e s1.ends.length aB.ce)).setCell ⟨b, 7, none⟩ (.slice aB.o s1.open_.length aB.co)).setCell ⟨b, 8, none⟩ (.slice aB.n s1.noes.length aB.cn)) = yB at *
      clear hy
      have BS := Lib.hid SX.out.1
      have HBD2 : Hid (∀ j, j < nk → yB.cell? ⟨g, off + j * 2 + 1, none⟩ = some (.string (bodyF j))) := Lib.hid (fun j hj => SX.out.2.cell (TX.out.cell (HBD.out j hj) (by simp)) (by have := HGB.out; simp; omega))
      have TS := Lib.hid ((TR.out.trans TX.out (by simp)).trans SX.out.2 (fun i hi => .inr (by have := HB0.out; simp at hi; omega)))
      clear SX TX HBD TR
      have mk := make_ints10 yB nk (by omega)
      go_upto_region 15 with fail
      obtain ⟨q, hq⟩ : ∃ q, q = yB.heap.size := ⟨_, rfl⟩
      have BQ := Lib.hid (BS.out.still (Turn.alloc [] yB (.cells (madeCells #[.int .i64 0] nk) 3)))
      have TQ := Lib.hid (TS.out.trans (Turn.alloc [] yB (.cells (madeCells #[.int .i64 0] nk) 3)) (by simp))
      have HCQ : Hid ((yB.alloc (.cells (madeCells #[.int .i64 0] nk) 3)).heap[q]? = some (.cells (madeCells #[.int .i64 0] nk) 3)) := Lib.hid (by rw [hq]; exact heap_alloc_new yB _)
      have HQC : Hid (∀ j, j < nk → (madeCells #[.int .i64 0] nk)[j]? = some (.int .i64 0)) := Lib.hid (fun j hj => by
        have e := toList_madeCells_one (.int .i64 0) nk
        rw [← Array.getElem?_toList, e]
        simp [hj])
      have HBD3 : Hid (∀ j, j < nk → (yB.alloc (.cells (madeCells #[.int .i64 0] nk) 3)).cell? ⟨g, off + j * 2 + 1, none⟩ = some (.string (bodyF j))) := Lib.hid (fun j hj => (Turn.alloc [] yB _).cell (HBD2.out j hj) (by simp))
      have HQ : Hid (b < q ∧ g < q ∧ w.heap.size ≤ b ∧ b ≠ g ∧ q < (yB.alloc (.cells (madeCells #[.int .i64 0] nk) 3)).heap.size) := Lib.hid (by
        have h1 := lt_of_heap BS.out.head
        have h2 := World.block_lt_of_cell? _ _ (HBD2.out 0 (by omega))
        have h3 := HB0.out
        have h4 := HGB.out
        simp at h2
        refine ⟨by omega, by omega, h3, by omega, by simp; omega⟩)
      generalize hcm : madeCells #[.int .i64 0] nk = CM at *
      generalize hym : yB.alloc (.cells CM 3) = yM at *
      rw [← hq]
      clear hcm hym hq mk BS TS HBD2 HGB HG HB0
      go_loopw [10, 11, 12, 13, 14] (fun va vi v12 v13 v14 wx => ∃ (i a : Nat) (cnt by_ : Nat → Int) (s : StV) (ad : Ads) (C : Array Value) (u12 u13 u14 : Value), u12 = v12 ∧ u13 = v13 ∧ u14 = v14 ∧ va = .int .i64 (a : Int) ∧ vi = .int .i64 (i : Int) ∧ i ≤ l.length ∧ i ≤ 40 ∧ OF nk i a cnt by_ s ∧ Bx wx b ad s ∧ wx.heap[q]? = some (.cells C 3) ∧ (∀ j, j < nk → C[j]? = some (.int .i64 (cnt j))) ∧ (∀ j, j < nk → wx.cell? ⟨g, off + j * 2 + 1, none⟩ = some (.string (bodyF j))) ∧ Turn [] w wx ∧ q < wx.heap.size) (fun _ vi _ _ _ _ => l.length - (intOf vi).toNat)
      case atStart => exact ⟨0, 0, _, _, s1, aB, CM, _, _, _, rfl, rfl, rfl, rfl, rfl, by omega, by omega, HOF.out, BQ.out, HCQ.out, HQC.out, HBD3.out, TQ.out, HQ.out.2.2.2.2⟩
      case round =>
        obtain ⟨i, a, cnt, by_, s, ad, C, u12, u13, u14, rfl, rfl, rfl, rfl, rfl, hi1, hi2, hof, hbx, hcq, hcc, hbd, ht, hqs⟩ := hrel
        have OFH := Lib.hid hof
        have HBX := Lib.hid hbx
        have HC := Lib.hid hcq
        have HCC := Lib.hid hcc
        have HBD := Lib.hid hbd
        have HT := Lib.hid ht
        have ha := hof.le
        have HQS := Lib.hid hqs
        clear hof hbx hcq hcc hbd ht BQ TQ HCQ HQC HBD3 HOF hqs
        by_cases q1 : i < l.length ∧ i < 40
        · obtain ⟨q1, q2⟩ := q1
          have CX := next_calls HBX.out.is qT
          rw [show s.cells ad = #[.int .i64 s.broker, .int .i64 s.nextId, .int .i64 s.nextSeq, .int .i64 s.tx, .slice ad.m s.ms.length ad.cm, .slice ad.w s.waits.length ad.cw, .slice ad.e s.ends.length ad.ce, .slice ad.o s.open_.length ad.co, .slice ad.n s.noes.length ad.cn] from rfl, show qT = ⟨#[113]⟩ from rfl] at CX
          have hh := HBX.out.head
          rw [show s.cells ad = #[.int .i64 s.broker, .int .i64 s.nextId, .int .i64 s.nextSeq, .int .i64 s.tx, .slice ad.m s.ms.length ad.cm, .slice ad.w s.waits.length ad.cw, .slice ad.e s.ends.length ad.ce, .slice ad.o s.open_.length ad.co, .slice ad.n s.noes.length ad.cn] from rfl] at hh
          obtain ⟨c0, c1, c2, c3, c4, c5, c6, c7, c8⟩ := nine_of hh
          clear hh
          by_cases han : a < nk
          · rw [show (⟨#[113]⟩ : ByteArray) = qT from rfl, OFH.out.next han] at CX
            rw [show (msgC ((some (msgF cnt by_ a)).getD msg0)).toArray = #[.int .i64 (idF a), .string qT, .string (bodyF a), .int .i64 ((a : Int) + 1), .int .i64 (cnt a), .int .i64 (by_ a)] from rfl, show (some (msgF cnt by_ a)).isSome = true from rfl, show qT = ⟨#[113]⟩ from rfl] at CX
            obtain ⟨idv, hid⟩ : ∃ x, x = idF a := ⟨_, rfl⟩
            obtain ⟨bd, hbd⟩ : ∃ x, x = bodyF a := ⟨_, rfl⟩
            obtain ⟨cv, hcv⟩ : ∃ x, x = cnt a := ⟨_, rfl⟩
            obtain ⟨bv, hbv⟩ : ∃ x, x = by_ a := ⟨_, rfl⟩
            rw [← hid, ← hbd, ← hcv, ← hbv] at CX
            have HID := Lib.hid hid
            have HBV := Lib.hid hbd
            have HCV := Lib.hid hcv
            have C1 := Lib.hid CX
            clear CX hid hbd hcv hbv
            go_wp2_with fail
            clear c0 c1 c2 c3 c4 c5 c6 c7 c8
            refine C1.out.mono ?_
            rintro e x2 ⟨rfl, t2⟩
            have U2 := Lib.hid t2
            clear t2 C1
            go_upto_region 20 with fail
            obtain ⟨mo, hmo⟩ : ∃ o : Obj, o = .cells #[.int .i64 idv, .string ⟨#[113]⟩, .string bd, .int .i64 ((a : Int) + 1), .int .i64 cv, .int .i64 bv] 49 := ⟨_, rfl⟩
            have hm2 := heap_alloc_new x2 mo
            rw [hmo] at hm2
            have U3 := Lib.hid (U2.out.trans (Turn.alloc [] x2 mo) (by simp))
            rw [hmo] at U3
            generalize hx3 : x2.alloc (.cells #[.int .i64 idv, .string ⟨#[113]⟩, .string bd, .int .i64 ((a : Int) + 1), .int .i64 cv, .int .i64 bv] 49) = x3 at *
            obtain ⟨p, hp⟩ : ∃ p, p = x2.heap.size := ⟨_, rfl⟩
            rw [← hp] at hm2 ⊢
            have HM := Lib.hid hm2
            have HPB : Hid (b < p ∧ q < p) := Lib.hid (by have h1 := U2.out.size; have h2 := lt_of_heap HBX.out.head; have h3 := HQS.out; omega)
            clear hmo hx3 hp U2
            have m0 : x3.cell? ⟨p, 0, none⟩ = some (.int .i64 idv) := by rw [cell_of_row _ _ _ _ _ _ hm2]; rfl
            have m2 : x3.cell? ⟨p, 2, none⟩ = some (.string bd) := by rw [cell_of_row _ _ _ _ _ _ hm2]; rfl
            have m4 : x3.cell? ⟨p, 4, none⟩ = some (.int .i64 cv) := by rw [cell_of_row _ _ _ _ _ _ hm2]; rfl
            have k1 : x3.cell? ⟨g, off + a * 2 + 1, none⟩ = some (.string bd) := U3.out.cell (by rw [HBV.out]; exact HBD.out a han) (by simp)
            have k2 : x3.cell? ⟨q, a, none⟩ = some (.int .i64 cv) := U3.out.cell (by rw [HCV.out]; exact cell_in HC.out (HCC.out a han)) (by simp)
            have hba : 0 ≤ (a : Int) ∧ (a : Int) < (nk : Int) := by omega
            clear hm2
            go_quiet (fail)
            have TD := Turn.drewN [] x3 nq
            have m0 := TD.cell m0 (by simp)
            generalize x3.drewN nq = x5 at *
            have U5 := Lib.hid (U3.out.trans TD (by simp))
            clear m2 m4 k1 k2 TD HM U3 HPB
            have HB5 := Lib.hid (HBX.out.still U5.out)
            obtain ⟨s2, hs2⟩ : ∃ s2, s2 = applyS s (rtF i a) := ⟨_, rfl⟩
            have HS2 := Lib.hid hs2
            have HST : Hid (OF nk (i + 1) (a + 1) cnt (upd by_ a (tF i)) s2) := Lib.hid (by rw [hs2]; exact OFH.out.stays han hn10 q2)
            have C := apply_rows HB5.out.is OFH.out.may (rtF i a) none none 0 0 (il_none _) (ps_none _) (by show okI (tF i); unfold okI tF; omega) (by show okI (idF a); unfold okI idF; omega) hs2.symm
            rw [show s.cells ad = #[.int .i64 s.broker, .int .i64 s.nextId, .int .i64 s.nextSeq, .int .i64 s.tx, .slice ad.m s.ms.length ad.cm, .slice ad.w s.waits.length ad.cw, .slice ad.e s.ends.length ad.ce, .slice ad.o s.open_.length ad.co, .slice ad.n s.noes.length ad.cn] from rfl, show (rtF i a).cells none 0 none 0 = #[.int .i64 2, .int .i64 (4294967298 + (i : Int)), .int .i64 (idF a), .bool false, .slice none 0 0, .slice none 0 0] from rfl, ← HID.out] at C
            have hwt : IntKind.i64.wrap (4294967298 + (i : Int)) = 4294967298 + (i : Int) := by rw [IntKind.wrap_i64]; omega
            have C1 := Lib.hid C
            have hh := HB5.out.head
            rw [show s.cells ad = #[.int .i64 s.broker, .int .i64 s.nextId, .int .i64 s.nextSeq, .int .i64 s.tx, .slice ad.m s.ms.length ad.cm, .slice ad.w s.waits.length ad.cw, .slice ad.e s.ends.length ad.ce, .slice ad.o s.open_.length ad.co, .slice ad.n s.noes.length ad.cn] from rfl] at hh
            obtain ⟨c0, c1, c2, c3, c4, c5, c6, c7, c8⟩ := nine_of hh
            clear C hh hs2
            go_wp2_with fail
            clear c0 c1 c2 c3 c4 c5 c6 c7 c8 m0
            refine C1.out.mono ?_
            rintro e x6 ⟨a6, LWa6, LOa6, LNa6, rfl, rA, tA⟩
            have BX := Lib.hid (HB5.out.still tA)
            have sx := bx_store2 BX.out rA HST.out.may
            have SX : Hid (Bx (((((((((x6.setCell ⟨b, 0, none⟩ (.int .i64 s2.broker)).setCell ⟨b, 1, none⟩ (.int .i64 s2.nextId)).setCell ⟨b, 2, none⟩ (.int .i64 s2.nextSeq)).setCell ⟨b, 3, none⟩ (.int .i64 s2.tx)).setCell ⟨b, 4, none⟩ (.slice a6.m s2.ms.length a6.cm)).setCell ⟨b, 5, none⟩ (.slice a6.w s2.waits.length a6.cw)).setCell ⟨b, 6, none⟩ (.slice a6.e s2.ends.length a6.ce)).setCell ⟨b, 7, none⟩ (.slice a6.o s2.open_.length a6.co)).setCell ⟨b, 8, none⟩ (.slice a6.n s2.noes.length a6.cn)) b a6 s2 ∧ Turn [b] x6 (((((((((x6.setCell ⟨b, 0, none⟩ (.int .i64 s2.broker)).setCell ⟨b, 1, none⟩ (.int .i64 s2.nextId)).setCell ⟨b, 2, none⟩ (.int .i64 s2.nextSeq)).setCell ⟨b, 3, none⟩ (.int .i64 s2.tx)).setCell ⟨b, 4, none⟩ (.slice a6.m s2.ms.length a6.cm)).setCell ⟨b, 5, none⟩ (.slice a6.w s2.waits.length a6.cw)).setCell ⟨b, 6, none⟩ (.slice a6.e s2.ends.length a6.ce)).setCell ⟨b, 7, none⟩ (.slice a6.o s2.open_.length a6.co)).setCell ⟨b, 8, none⟩ (.slice a6.n s2.noes.length a6.cn)) ∧ Rows (((((((((x6.setCell ⟨b, 0, none⟩ (.int .i64 s2.broker)).setCell ⟨b, 1, none⟩ (.int .i64 s2.nextId)).setCell ⟨b, 2, none⟩ (.int .i64 s2.nextSeq)).setCell ⟨b, 3, none⟩ (.int .i64 s2.tx)).setCell ⟨b, 4, none⟩ (.slice a6.m s2.ms.length a6.cm)).setCell ⟨b, 5, none⟩ (.slice a6.w s2.waits.length a6.cw)).setCell ⟨b, 6, none⟩ (.slice a6.e s2.ends.length a6.ce)).setCell ⟨b, 7, none⟩ (.slice a6.o s2.open_.length a6.co)).setCell ⟨b, 8, none⟩ (.slice a6.n s2.noes.length a6.cn)) x5.heap.size s2 a6 LWa6 LOa6 LNa6) := Lib.hid sx
            have TX := Lib.hid tA
            have hh := BX.out.head
            rw [show s.cells ad = #[.int .i64 s.broker, .int .i64 s.nextId, .int .i64 s.nextSeq, .int .i64 s.tx, .slice ad.m s.ms.length ad.cm, .slice ad.w s.waits.length ad.cw, .slice ad.e s.ends.length ad.ce, .slice ad.o s.open_.length ad.co, .slice ad.n s.noes.length ad.cn] from rfl] at hh
            obtain ⟨c0, c1, c2, c3, c4, c5, c6, c7, c8⟩ := nine_of hh
            have f0 : ∀ j, x6.frozen? ⟨b, j, none⟩ = false := fun j => unfrozen_of hh
            rw [show s2.cells a6 = #[.int .i64 s2.broker, .int .i64 s2.nextId, .int .i64 s2.nextSeq, .int .i64 s2.tx, .slice a6.m s2.ms.length a6.cm, .slice a6.w s2.waits.length a6.cw, .slice a6.e s2.ends.length a6.ce, .slice a6.o s2.open_.length a6.co, .slice a6.n s2.noes.length a6.cn] from rfl]
            clear C1 sx rA tA hh HB5
            go_upto_region 24 with fail
            clear c0 c1 c2 c3 c4 c5 c6 c7 c8 f0 BX
            generalize hy : (((((((((x6.setCell ⟨b, 0, none⟩ (.int .i64 s2.broker)).setCell ⟨b, 1, none⟩ (.int .i64 s2.nextId)).setCell ⟨b, 2, none⟩ (.int .i64 s2.nextSeq)).setCell ⟨b, 3, none⟩ (.int .i64 s2.tx)).setCell ⟨b, 4, none⟩ (.slice a6.m s2.ms.length a6.cm)).setCell ⟨b, 5, none⟩ (.slice a6.w s2.waits.length a6.cw)).setCell ⟨b, 6, none⟩ (.slice a6.e s2.ends.length a6.ce)).setCell ⟨b, 7, none⟩ (.slice a6.o s2.open_.length a6.co)).setCell ⟨b, 8, none⟩ (.slice a6.n s2.noes.length a6.cn)) = y6 at *
            clear hy
            have HCy6 : Hid (y6.heap[q]? = some (.cells C 3)) := Lib.hid (SX.out.2.1.heap ((U5.out.trans TX.out (by simp)).heap HC.out (by simp)) (by have := HQ.out; simp; omega))
            have HBDy6 : Hid (∀ j, j < nk → y6.cell? ⟨g, off + j * 2 + 1, none⟩ = some (.string (bodyF j))) := Lib.hid (fun j hj => SX.out.2.1.cell ((U5.out.trans TX.out (by simp)).cell (HBD.out j hj) (by simp)) (by have := HQ.out; simp; omega))
            have Ty6 : Hid (Turn [] w y6) := Lib.hid ((HT.out.trans (U5.out.trans TX.out (by simp)) (by simp)).trans SX.out.2.1 (fun i hi => .inr (by have := HQ.out; simp at hi; omega)))
            have HQy6 : Hid (q < y6.heap.size) := Lib.hid (lt_of_heap HCy6.out)
            have BB := Lib.hid SX.out.1
            clear SX TX U5 HC HBD HT hwt
            obtain ⟨gl, ol, el, -, hcl⟩ := HL.out.at (by intro e; rw [e] at q1; simp at q1)
            subst el
            have hyw := Ty6.out.cell (hcl i q1) (by simp)
            obtain ⟨y0, hyy⟩ : ∃ y0, y0 = l.getD i false := ⟨_, rfl⟩
            rw [← hyy] at hyw
            clear hyy hcl
            cases y0 with
            | true =>
              obtain ⟨s3, hs3⟩ : ∃ s3, s3 = applyS s2 (rbF i) := ⟨_, rfl⟩
              have HBK : Hid (OF nk (i + 1) (if cnt a + 1 = 3 then a + 1 else a) (upd cnt a (cnt a + 1)) by_ s3) := Lib.hid (by rw [hs3, HS2.out]; exact OFH.out.back han hn10 q2)
              have C := apply_rows BB.out.is HST.out.may (rbF i) none none 0 0 (il_none _) (ps_none _) (by show okI (tF i); unfold okI tF; omega) (by show okI 0; unfold okI; decide) hs3.symm
              rw [show s2.cells a6 = #[.int .i64 s2.broker, .int .i64 s2.nextId, .int .i64 s2.nextSeq, .int .i64 s2.tx, .slice a6.m s2.ms.length a6.cm, .slice a6.w s2.waits.length a6.cw, .slice a6.e s2.ends.length a6.ce, .slice a6.o s2.open_.length a6.co, .slice a6.n s2.noes.length a6.cn] from rfl, show (rbF i).cells none 0 none 0 = #[.int .i64 3, .int .i64 (4294967298 + (i : Int)), .int .i64 0, .bool false, .slice none 0 0, .slice none 0 0] from rfl] at C
              have C1 := Lib.hid C
              have hh := BB.out.head
              rw [show s2.cells a6 = #[.int .i64 s2.broker, .int .i64 s2.nextId, .int .i64 s2.nextSeq, .int .i64 s2.tx, .slice a6.m s2.ms.length a6.cm, .slice a6.w s2.waits.length a6.cw, .slice a6.e s2.ends.length a6.ce, .slice a6.o s2.open_.length a6.co, .slice a6.n s2.noes.length a6.cn] from rfl] at hh
              obtain ⟨c0, c1, c2, c3, c4, c5, c6, c7, c8⟩ := nine_of hh
              clear C hh hs3
              go_wp2_with fail
              clear c0 c1 c2 c3 c4 c5 c6 c7 c8 hyw
              refine C1.out.mono ?_
              rintro e x8 ⟨a8, LWa8, LOa8, LNa8, rfl, rA, tA⟩
              have BX := Lib.hid (BB.out.still tA)
              have sx := bx_store2 BX.out rA HBK.out.may
              have SX : Hid (Bx (((((((((x8.setCell ⟨b, 0, none⟩ (.int .i64 s3.broker)).setCell ⟨b, 1, none⟩ (.int .i64 s3.nextId)).setCell ⟨b, 2, none⟩ (.int .i64 s3.nextSeq)).setCell ⟨b, 3, none⟩ (.int .i64 s3.tx)).setCell ⟨b, 4, none⟩ (.slice a8.m s3.ms.length a8.cm)).setCell ⟨b, 5, none⟩ (.slice a8.w s3.waits.length a8.cw)).setCell ⟨b, 6, none⟩ (.slice a8.e s3.ends.length a8.ce)).setCell ⟨b, 7, none⟩ (.slice a8.o s3.open_.length a8.co)).setCell ⟨b, 8, none⟩ (.slice a8.n s3.noes.length a8.cn)) b a8 s3 ∧ Turn [b] x8 (((((((((x8.setCell ⟨b, 0, none⟩ (.int .i64 s3.broker)).setCell ⟨b, 1, none⟩ (.int .i64 s3.nextId)).setCell ⟨b, 2, none⟩ (.int .i64 s3.nextSeq)).setCell ⟨b, 3, none⟩ (.int .i64 s3.tx)).setCell ⟨b, 4, none⟩ (.slice a8.m s3.ms.length a8.cm)).setCell ⟨b, 5, none⟩ (.slice a8.w s3.waits.length a8.cw)).setCell ⟨b, 6, none⟩ (.slice a8.e s3.ends.length a8.ce)).setCell ⟨b, 7, none⟩ (.slice a8.o s3.open_.length a8.co)).setCell ⟨b, 8, none⟩ (.slice a8.n s3.noes.length a8.cn)) ∧ Rows (((((((((x8.setCell ⟨b, 0, none⟩ (.int .i64 s3.broker)).setCell ⟨b, 1, none⟩ (.int .i64 s3.nextId)).setCell ⟨b, 2, none⟩ (.int .i64 s3.nextSeq)).setCell ⟨b, 3, none⟩ (.int .i64 s3.tx)).setCell ⟨b, 4, none⟩ (.slice a8.m s3.ms.length a8.cm)).setCell ⟨b, 5, none⟩ (.slice a8.w s3.waits.length a8.cw)).setCell ⟨b, 6, none⟩ (.slice a8.e s3.ends.length a8.ce)).setCell ⟨b, 7, none⟩ (.slice a8.o s3.open_.length a8.co)).setCell ⟨b, 8, none⟩ (.slice a8.n s3.noes.length a8.cn)) y6.heap.size s3 a8 LWa8 LOa8 LNa8) := Lib.hid sx
              have TX := Lib.hid tA
              have hh := BX.out.head
              rw [show s2.cells a6 = #[.int .i64 s2.broker, .int .i64 s2.nextId, .int .i64 s2.nextSeq, .int .i64 s2.tx, .slice a6.m s2.ms.length a6.cm, .slice a6.w s2.waits.length a6.cw, .slice a6.e s2.ends.length a6.ce, .slice a6.o s2.open_.length a6.co, .slice a6.n s2.noes.length a6.cn] from rfl] at hh
              obtain ⟨c0, c1, c2, c3, c4, c5, c6, c7, c8⟩ := nine_of hh
              have f0 : ∀ j, x8.frozen? ⟨b, j, none⟩ = false := fun j => unfrozen_of hh
              rw [show s3.cells a8 = #[.int .i64 s3.broker, .int .i64 s3.nextId, .int .i64 s3.nextSeq, .int .i64 s3.tx, .slice a8.m s3.ms.length a8.cm, .slice a8.w s3.waits.length a8.cw, .slice a8.e s3.ends.length a8.ce, .slice a8.o s3.open_.length a8.co, .slice a8.n s3.noes.length a8.cn] from rfl]
              clear C1 sx rA tA hh BB
              go_upto_region 26 with fail
              clear c0 c1 c2 c3 c4 c5 c6 c7 c8 f0 BX
              generalize hy : (((((((((x8.setCell ⟨b, 0, none⟩ (.int .i64 s3.broker)).setCell ⟨b, 1, none⟩ (.int .i64 s3.nextId)).setCell ⟨b, 2, none⟩ (.int .i64 s3.nextSeq)).setCell ⟨b, 3, none⟩ (.int .i64 s3.tx)).setCell ⟨b, 4, none⟩ (.slice a8.m s3.ms.length a8.cm)).setCell ⟨b, 5, none⟩ (.slice a8.w s3.waits.length a8.cw)).setCell ⟨b, 6, none⟩ (.slice a8.e s3.ends.length a8.ce)).setCell ⟨b, 7, none⟩ (.slice a8.o s3.open_.length a8.co)).setCell ⟨b, 8, none⟩ (.slice a8.n s3.noes.length a8.cn)) = y8 at *
              clear hy
              have HCy8 : Hid (y8.heap[q]? = some (.cells C 3)) := Lib.hid (SX.out.2.1.heap (TX.out.heap HCy6.out (by simp)) (by have := HQ.out; simp; omega))
              have HBDy8 : Hid (∀ j, j < nk → y8.cell? ⟨g, off + j * 2 + 1, none⟩ = some (.string (bodyF j))) := Lib.hid (fun j hj => SX.out.2.1.cell (TX.out.cell (HBDy6.out j hj) (by simp)) (by have := HQ.out; simp; omega))
              have Ty8 : Hid (Turn [] w y8) := Lib.hid ((Ty6.out.trans TX.out (by simp)).trans SX.out.2.1 (fun i hi => .inr (by have := HQ.out; simp at hi; omega)))
              have HQy8 : Hid (q < y8.heap.size) := Lib.hid (lt_of_heap HCy8.out)
              have B8 := Lib.hid SX.out.1
              have R8 := Lib.hid SX.out.2.2
              clear SX TX HCy6 HBDy6 Ty6
              obtain ⟨f1, f2, f3⟩ := OFH.out.free han
              rw [← HCV.out] at f2 f3
              have kc := cell_in HCy8.out (HCC.out a han)
              rw [← HCV.out] at kc
              have fq : ∀ j, y8.frozen? ⟨q, j, none⟩ = false := fun j => unfrozen_of HCy8.out
              have hw1 : IntKind.i64.wrap (cv + 1) = cv + 1 := by rw [IntKind.wrap_i64]; omega
              go_upto_region 27 with fail
              have TC := Lib.hid (Turn.setCell (l := [q]) (b := q) (i := a) y8 (by simp) (.int .i64 (cv + 1)))
              have B9 := Lib.hid (B8.out.over R8.out TC.out HQy6.out (by have := HQ.out; omega) HBK.out.may)
              have HC9 : Hid ((y8.setCell ⟨q, a, none⟩ (.int .i64 (cv + 1))).heap[q]? = some (.cells (C.setIfInBounds a (.int .i64 (cv + 1))) 3)) := Lib.hid (block_set HCy8.out _)
              have HBD9 : Hid (∀ j, j < nk → (y8.setCell ⟨q, a, none⟩ (.int .i64 (cv + 1))).cell? ⟨g, off + j * 2 + 1, none⟩ = some (.string (bodyF j))) := Lib.hid (fun j hj => TC.out.cell (HBDy8.out j hj) (by have := HQ.out; simp; omega))
              have T9 : Hid (Turn [] w (y8.setCell ⟨q, a, none⟩ (.int .i64 (cv + 1)))) := Lib.hid (Ty8.out.trans TC.out (fun i hi => .inr (by have := HQ.out; simp at hi; omega)))
              have HQ9 : Hid (q < (y8.setCell ⟨q, a, none⟩ (.int .i64 (cv + 1))).heap.size) := Lib.hid (lt_of_heap HC9.out)
              have HCC9 : Hid (∀ j, j < nk → (C.setIfInBounds a (.int .i64 (cv + 1)))[j]? = some (.int .i64 (upd cnt a (cnt a + 1) j))) := Lib.hid (fun j hj => by
                have hsz := (Array.getElem?_eq_some_iff.1 (HCC.out a han)).1
                rw [Array.getElem?_setIfInBounds]
                by_cases e : a = j
                · rw [if_pos e, if_pos (by omega), ← e, upd_at, HCV.out]
                · rw [if_neg e, HCC.out j hj, upd_off (Ne.symm e)])
              have kc9 := cell_in HC9.out (HCC9.out a han)
              rw [upd_at, ← HCV.out] at kc9
              generalize y8.setCell ⟨q, a, none⟩ (.int .i64 (cv + 1)) = y9 at *
              generalize C.setIfInBounds a (.int .i64 (cv + 1)) = C9 at *
              rw [← HCV.out] at HBK
              clear kc fq hw1 TC B8 R8 HCy8 HBDy8 Ty8 HQy8 f1 HQy6 OFH
              by_cases h3 : cv + 1 = 3
              · rw [if_pos h3] at HBK
                have hc3 : (cv + 1 == 3) = true := by simpa using h3
                go_wp2_with fail
                go_roundw
                case rel => exact ⟨i + 1, a + 1, upd cnt a (cnt a + 1), by_, s3, a8, C9, _, _, _, rfl, rfl, rfl, by go_num, by go_num, by omega, by omega, (by rw [← HCV.out]; exact HBK.out), B9.out, HC9.out, HCC9.out, HBD9.out, T9.out, HQ9.out⟩
                case measure => simp [intOf]; omega
              · rw [if_neg h3] at HBK
                have hc3 : (cv + 1 == 3) = false := by simpa using h3
                go_wp2_with fail
                go_roundw
                case rel => exact ⟨i + 1, a, upd cnt a (cnt a + 1), by_, s3, a8, C9, _, _, _, rfl, rfl, rfl, rfl, by go_num, by omega, by omega, (by rw [← HCV.out]; exact HBK.out), B9.out, HC9.out, HCC9.out, HBD9.out, T9.out, HQ9.out⟩
                case measure => simp [intOf]; omega
            | false =>
              go_wp2_with fail
              go_roundw
              case rel => exact ⟨i + 1, a + 1, cnt, _, s2, a6, C, _, _, _, rfl, rfl, rfl, by go_num, by go_num, by omega, by omega, HST.out, BB.out, HCy6.out, HCC.out, HBDy6.out, Ty6.out, HQy6.out⟩
              case measure => simp [intOf]; omega
          · have han2 : a = nk := by omega
            subst han2
            rw [show (⟨#[113]⟩ : ByteArray) = qT from rfl, OFH.out.none] at CX
            rw [show (msgC ((Option.none : Option MsgV).getD msg0)).toArray = #[.int .i64 0, .string ⟨#[]⟩, .string ⟨#[]⟩, .int .i64 0, .int .i64 0, .int .i64 0] from rfl, show (Option.none : Option MsgV).isSome = false from rfl, show qT = ⟨#[113]⟩ from rfl] at CX
            have C1 := Lib.hid CX
            clear CX
            go_wp2_with fail
            clear c0 c1 c2 c3 c4 c5 c6 c7 c8
            refine C1.out.mono ?_
            rintro e x2 ⟨rfl, t2⟩
            have U2 := Lib.hid (HT.out.trans t2 (by simp))
            clear t2 C1
            go_wp2_with fail
            go_ret
            exact ⟨rfl, (U2.out.trans (Turn.alloc [] _ _) (by simp)).belowAll⟩
        · by_cases q0 : i < l.length
          · have q2 : ¬ i < 40 := by omega
            clear q1
            go_wp2_with fail
            go_ret
            exact ⟨rfl, HT.out.belowAll⟩
          · clear q1
            go_wp2_with fail
            go_ret
            exact ⟨rfl, HT.out.belowAll⟩

end Go.Proofs.YtjhlfjgfohoflaaGreat

/-
  The law 'postillionlaw10.OrderFirst' answers true at every input, and each argument reads behind the call as it read before: for every input, no condition; the frame round the walk 'orderFirst_walk'.
-/
namespace Go.Proofs.YtjhlfjgfohoflaaGreat.orderFirst
open Go.ChangeShapes Go.WideShapes Go.ChangeAt Go.RowKit
open Go.ChangeMaps (open_string shut_string)
set_option linter.unusedVariables false

theorem own : ownKnob Tryz.prog.godebug = none := by kernel_rfl
theorem laidOut : laidOutB Tryz.prog = true := closed.p_laidOutB

set_option maxRecDepth 100000 in
theorem lifted (os : Os) (started : os.Started) (H : Type) (enc : TypeId × Value → H) :
    ReturnsInHanded {} Tryz.checked os 8 .any (Rows.orderFirstSpec.pre6 enc Tryz.prog Tryz.f8 Rows.orderFirstRow.domain false) (Rows.orderFirstSpec.post enc Tryz.prog Tryz.f8 false true false false) := by
  refine returnsInHanded_of_change (C := Tryz.checked) own started (by kernel_rfl) Tryz.func8
    (ChangeSpec.witness6 (enc := enc) (C := Tryz.checked) false ⟨#[], #[.int .i64 0, .slice none 0 0], []⟩ 8 (by kernel_rfl) (by kernel_rfl) (by kernel_rfl) (by kernel_rfl)) ?_
  intro W base args ds gs before hval0 hW hcnd _
  have hval : ∀ (j : Nat) t v, Tryz.f8.params[j]? = some t → args[j]? = some v → Value.okWide Tryz.prog W .any base t v := hval0
  have hW' := hW
  obtain ⟨p, q, hA0, hV, rfl, hfz, hnd⟩ := hW
  have hA : DataW.TrodAll enc Tryz.prog W 0 (fun _ => true) true Tryz.f8.params.toList args.toList ds p := hA0
  rw [Tryz.params8] at hA hval
  obtain ⟨v0, vs0, d0, ds0, p0, q0, hargs, rfl, rfl, h0, r0⟩ := trodAll_cons hA
  obtain ⟨v1, vs1, d1, ds1, p1, q1, rfl, rfl, rfl, h1, r1⟩ := trodAll_cons r0
  obtain ⟨rfl, rfl, rfl⟩ := trodAll_nil r1
  obtain rfl : args = #[v0, v1] := by cases args; simp_all
  obtain ⟨rfl, rfl⟩ := trodVars_none hV
  obtain ⟨a0, rfl, rfl, rfl, w0⟩ := open_int Tryz.underlying3 (hval 0 3 v0 rfl rfl) h0
  obtain ⟨a1, len1, cap1, rfl⟩ := okWide_slice Tryz.underlying47 (hval 1 47 v1 rfl rfl)
  have k1 := h1
  have lt1 : ∀ x ∈ p1, x.block < W.heap.size := by obtain ⟨m, hm⟩ := k1; exact DataW.trod_lt m _ _ _ hm
  obtain ⟨l1, rfl, w1⟩ := open_truths h1
  clear hA0 hval0
  refine (orderFirst_walk (w := W) a0 w0 a1 cap1 l1 w1).mono fun e W' ⟨he, bel⟩ => ?_
  subst he
  exact ⟨_, rfl, _, _, _, [], _, [], hW', trodAll_mk1 (shut_bool Tryz.underlying4 _), (trodAll_cons_mk (shut_int Tryz.underlying3 w0) (trodAll_cons_mk (Below.trod laidOut (by kernel_rfl) (of_decide_eq_true (by kernel_rfl)) k1 bel lt1) trodAll_mk0)), rfl, bel.frame _, fun h => by cases h⟩

theorem closed0 : (Rows.orderFirstRow.wf (OpenSpec.ofChange Rows.orderFirstSpec) : Bool) = true := by kernel_rfl

theorem closed3 : (Tryz.f8.params.all (Tryz.prog.readableRec ·) : Bool) = true := by kernel_rfl

theorem closed4 : (namedTie Tryz.prog Rows.orderFirstRow.named Rows.orderFirstSpec.vars : Bool) = true := by kernel_rfl

theorem closed5 : ((Rows.orderFirstRow.stops == []) : Bool) = true := by kernel_rfl

theorem closed7 : ((Rows.orderFirstRow.knobs == []) : Bool) = true := by kernel_rfl

theorem closed9 : ((Rows.orderFirstRow.inPlace == Tryz.prog.inPlace 8) : Bool) = true := by kernel_rfl

theorem closed10 : ((Rows.orderFirstRow.unfollowed == Tryz.prog.unfollowed 8) : Bool) = true := by kernel_rfl

theorem closed11 : ((Rows.orderFirstRow.recurses == Tryz.prog.recurses 8) : Bool) = true := by kernel_rfl

theorem closed12 : ((Rows.orderFirstRow.named == Tryz.prog.varsNamed 8) : Bool) = true := by kernel_rfl

theorem closed13 : ((Rows.orderFirstRow.maps == (Tryz.f8.params.toList ++ Rows.orderFirstSpec.plain.varTypes Tryz.prog).any (Tryz.prog.mapsRec ·)) : Bool) = true := by kernel_rfl

theorem closed14 : ((Rows.orderFirstRow.ifaces == (Tryz.f8.params.toList ++ Rows.orderFirstSpec.plain.varTypes Tryz.prog).any (Tryz.prog.ifacesRec ·)) : Bool) = true := by kernel_rfl

theorem closed15 : ((Rows.orderFirstRow.mapsOut == Tryz.prog.mapsAmong Tryz.f8.resultTypes.toList) : Bool) = true := by kernel_rfl

theorem closed16 : ((Rows.orderFirstRow.loops == (Tryz.f8.params.toList ++ Rows.orderFirstSpec.plain.varTypes Tryz.prog).any (Tryz.prog.loopsFrom ·)) : Bool) = true := by kernel_rfl

theorem closed17 : ((Rows.orderFirstRow.wideKeys == (Tryz.f8.params.toList ++ Rows.orderFirstSpec.plain.varTypes Tryz.prog ++ Tryz.f8.resultTypes.toList).any (Tryz.prog.wideKeysFrom ·)) : Bool) = true := by kernel_rfl

theorem closed18 : (Rows.orderFirstSpec.vars.all (Tryz.prog.varReadable ·) : Bool) = true := by kernel_rfl

theorem closed19 : (Tryz.f8.resultTypes.all (fun t => Tryz.prog.readableRec t && decide (t < Tryz.prog.types.size)) : Bool) = true := by kernel_rfl

theorem closed20 : ((Rows.orderFirstRow.ifacesOut == Tryz.f8.resultTypes.toList.any (Tryz.prog.ifacesRec ·)) : Bool) = true := by kernel_rfl

theorem closed21 : ((Rows.orderFirstRow.loopsOut == Tryz.f8.resultTypes.toList.any (Tryz.prog.loopsFrom ·)) : Bool) = true := by kernel_rfl

theorem closed22 : ((Rows.orderFirstRow.plainKeys == Tryz.prog.plainKeys) : Bool) = true := by show (_ == _) = true; rw [closed.plainKeys_is]; kernel_rfl

theorem closed23 : (Rows.orderFirstRow.shortTexts.isNone : Bool) = true := by kernel_rfl

theorem closed26 : ((Rows.orderFirstRow.lifted == Tryz.prog.liftsFinal) : Bool) = true := by show (_ == _) = true; rw [closed.lifted_is]; kernel_rfl

theorem closed27 : ((Tryz.prog.make == some Rows.orderFirstRow.make) : Bool) = true := by show (_ == _) = true; rw [closed.make_is]; kernel_rfl

theorem closed28 : ((Rows.orderFirstRow.kinds == (if Rows.orderFirstRow.domain.isEmpty then [] else Tryz.f8.params.toList.map fun t => match Tryz.prog.underlying t with | some (.int k) => some k | _ => none)) : Bool) = true := by kernel_rfl

theorem closed29 : ((Rows.orderFirstRow.pinned == Rows.orderFirstRow.pinnedBy) : Bool) = true := by kernel_rfl

theorem closed30 : ((Rows.orderFirstRow.veiled == (Tryz.f8.params.toList ++ Rows.orderFirstSpec.plain.varTypes Tryz.prog ++ Tryz.f8.resultTypes.toList).any (Tryz.prog.veiledRec ·)) : Bool) = true := by kernel_rfl

theorem closed31 : (Rows.orderFirstRow.veiledFits Tryz.prog Tryz.f8.params.toList (Tryz.f8.params.toList ++ Rows.orderFirstSpec.plain.varTypes Tryz.prog ++ Tryz.f8.resultTypes.toList) : Bool) = true := by kernel_rfl

set_option maxRecDepth 100000 in
theorem closedAll : joinedFacts Tryz.prog 8 Tryz.f8 Rows.orderFirstSpec Rows.orderFirstRow = true :=
  joinMk.joined_mk closed0 closed.p_laidOutB closed.p_mapsRowed closed3 closed4 closed5 closed.p_stops closed7 closed.p_stopKnobs closed9 closed10 closed11 closed12 closed13 closed14 closed15 closed16 closed17 closed18 closed19 closed20 closed21 closed22 closed23 closed.p_stopsHeard closed.p_mayEnter closed26 closed27 closed28 closed29 closed30 closed31

theorem over : Rows.orderFirstRow.holds Tryz.pinned (OpenSpec.ofChange Rows.orderFirstSpec) :=
  OpenClaim.holds_of_wide 8 Tryz.f8 rfl rfl rfl rfl rfl rfl rfl ⟨rfl, rfl, rfl, rfl, rfl⟩ rfl rfl rfl rfl rfl (by kernel_rfl) Tryz.func8 closedAll
    (of_decide_eq_true (by kernel_rfl)) (by unfold Func.isWrapper; first | (rw [if_pos (by decide +kernel)]; kernel_rfl) | (rw [if_neg (by decide +kernel)]; exact ⟨rfl, rfl⟩))
    (fun os started H enc _ => lifted os started H enc)

/-- The statement. -/
theorem proved : Rows.OrderFirstSaid := over
end Go.Proofs.YtjhlfjgfohoflaaGreat.orderFirst
