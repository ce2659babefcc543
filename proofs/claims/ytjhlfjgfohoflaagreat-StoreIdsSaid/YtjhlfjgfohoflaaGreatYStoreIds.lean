/-
  Of the texts Rls Idm Ph2 StoreIdsWalk StoreIds, in build order, each as it was built alone.
-/
import Derived.Test.YtjhlfjgfohoflaaGreatPkAC
import Derived.Test.YtjhlfjgfohoflaaGreatPkAA
import Derived.Test.YtjhlfjgfohoflaaGreatPkBE
import Derived.Test.YtjhlfjgfohoflaaGreatPkAX
import Derived.Test.YtjhlfjgfohoflaaGreatPkAJ
import Derived.Test.YtjhlfjgfohoflaaGreatPkAO
import Derived.Test.YtjhlfjgfohoflaaGreatPkBD
import Derived.Test.YtjhlfjgfohoflaaGreatPkBF
import Derived.Test.YtjhlfjgfohoflaaGreatPkAZ
import Derived.Test.YtjhlfjgfohoflaaGreatPkAM
import Derived.Test.YtjhlfjgfohoflaaGreatRows
import Derived.ProofKit
import Derived.OpenShut
import Derived.ShutString
import Derived.ChangeOld
import Derived.Below

/-
  A slice of records that came in.
-/
namespace Go.Proofs.YtjhlfjgfohoflaaGreat
open Go.RowKit Go.ChangeShapes Go.WideShapes Go.ChangeAt Go.Deep

structure LayR where
  v : RecV
  ap : Option Addr
  cp : Nat
  aq : Option Addr
  cq : Nat

def recC (x : LayR) : List Value := [.int .i64 x.v.kind, .int .i64 x.v.tid, .int .i64 x.v.id, .bool x.v.yes, .slice x.ap x.v.parts.length x.cp, .slice x.aq x.v.puts.length x.cq]

structure RecOk (w : World) (x : LayR) : Prop where
  p : Il w x.ap x.cp x.v.parts
  q : Ps w x.aq x.cq x.v.puts
  t : okI x.v.tid
  d : okI x.v.id

def layNone : LayR := ⟨⟨0, 0, 0, false, [], []⟩, none, 0, none, 0⟩

/-- A slice of records, as cells. -/
def Rls (w : World) (ao : Option Addr) (c : Nat) (l : List LayR) : Prop :=
  ((ao = none ∧ c = 0 ∧ l = []) ∨
  ∃ A : Addr, ao = some A ∧ l.length ≤ c ∧ c ≤ maxLen ∧ ∀ i, i < l.length → ∀ j u, (recC (l.getD i layNone))[j]? = some u → w.cell? ((A.add (i * 6)).add j) = some u) ∧ ∀ i, i < l.length → RecOk w (l.getD i layNone)

theorem Rls.at {w : World} {ao : Option Addr} {c : Nat} {l : List LayR} (h : Rls w ao c l) (hl : l ≠ []) : ∃ b off, ao = some ⟨b, off, none⟩ ∧ ∀ i, i < l.length → ∀ j u, (recC (l.getD i layNone))[j]? = some u → w.cell? ⟨b, off + i * 6 + j, none⟩ = some u := by
  rcases h.1 with ⟨_, _, h⟩ | ⟨A, rfl, _, _, hc⟩
  · exact absurd h hl
  · obtain ⟨b, off, spot⟩ := A
    have h0 := hc 0 (List.length_pos_iff.2 hl) 0 _ rfl
    have hs : spot = none := by simpa [Addr.add] using World.cell?_spot h0
    subst hs
    exact ⟨b, off, rfl, fun i hi j u hu => by
      have := hc i hi j u hu
      rwa [Addr.add_lit, Addr.add_lit] at this⟩

theorem Rls.len {w : World} {ao : Option Addr} {c : Nat} {l : List LayR} (h : Rls w ao c l) : (l.length : Int) ≤ 9223372036854775807 := by
  rcases h.1 with ⟨_, _, rfl⟩ | ⟨A, _, q1, q2, _⟩
  · simp
  · unfold maxLen at q2; omega

set_option maxRecDepth 100000 in
theorem open_records {H : Type} {enc : TypeId × Value → H} {W : World} {a : Option Addr} {len cap : Nat} {d : DataW H} {p : List MemPlace}
    (h : DataW.Trod enc Tryz.prog W 0 (fun _ => true) true 33 (.slice a len cap) d p) : ∃ l : List LayR, len = l.length ∧ Rls W a cap l := by
  obtain ⟨fuel, hf⟩ := h
  rcases open_slice Tryz.underlying33 hf with ⟨hcs, _⟩ | ⟨x, l, c, m, n, E, Pl, hcs, _, hl, hm, hmm, _, hel⟩
  · simp [Value.cells] at hcs
    obtain ⟨rfl, rfl, rfl⟩ := hcs
    exact ⟨[], rfl, .inl ⟨rfl, rfl, rfl⟩, by simp⟩
  · simp [Value.cells] at hcs
    obtain ⟨rfl, rfl, rfl⟩ := hcs
    simp only [if_true] at hmm
    rw [cells6R] at hel
    obtain ⟨ps, hol, hop⟩ := exists_list layNone (fun i (y : LayR) => (∀ j u, (recC y)[j]? = some u → W.cell? ((x.add (i * 6)).add j) = some u) ∧ RecOk W y) len (by
      intro i hi
      obtain ⟨cs, hc, ht⟩ := hel i (by omega)
      obtain ⟨y0, y1, y2, y3, y4, y5, k, hlen, t0, t1, t2, t3, t4, t5⟩ := trod_struct6 Tryz.underlying37 ht
      rw [cells6R] at hlen
      obtain ⟨_, _, hat⟩ := World.cells?_some hc
      match cs, hlen with
      | [v0, v1, v2, v3, v4, v5], _ =>
        dsimp only at t0 t1 t2 t3 t4 t5
        rw [cells1I] at t0
        rw [cells1L] at t1 t2
        rw [cells1B] at t3
        rw [cells1P] at t4
        rw [cells1Q] at t5
        simp only [List.drop_zero, List.drop_succ_cons, List.take_succ_cons, List.take_zero] at t0 t1 t2 t3 t4 t5
        obtain ⟨kd, e0, -, w0⟩ := DataW.trod_int Tryz.underlying3 t0
        obtain ⟨td, e1, -, w1⟩ := DataW.trod_int Tryz.underlying2 t1
        obtain ⟨id, e2, -, w2⟩ := DataW.trod_int Tryz.underlying2 t2
        obtain ⟨yes, e3, -⟩ := DataW.trod_bool Tryz.underlying4 t3
        obtain ⟨ap, cp, P, e4, hp⟩ := field_ints t4
        obtain ⟨aq, cq, Q, e5, hq⟩ := field_puts t5
        simp only [List.cons.injEq, and_true] at e0 e1 e2 e3
        subst e0 e1 e2 e3 e4 e5
        refine ⟨⟨⟨kd, td, id, yes, P, Q⟩, ap, cp, aq, cq⟩, ?_, hp, hq, bounds_i64 w1, bounds_i64 w2⟩
        intro j u hu
        match j, hu with
        | 0, hu | 1, hu | 2, hu | 3, hu | 4, hu | 5, hu =>
          simp [recC] at hu
          subst hu
          exact hat _ (by omega)
        | j + 6, hu => simp [recC] at hu)
    exact ⟨ps, hol.symm, .inr ⟨x, rfl, by omega, hm, fun i hi => (hop i (by omega)).1⟩, fun i hi => (hop i (by omega)).2⟩

end Go.Proofs.YtjhlfjgfohoflaaGreat

/-
  Which messages are new behind a record.
-/
namespace Go.Proofs.YtjhlfjgfohoflaaGreat
open Go.RowKit Go.Proofs.YtjhlfjgfohoflaaGreat.V

theorem come_lenI (b : Int) : ∀ (l : List (ByteArray × ByteArray)) (i q : Int), (come b i q l).length = l.length
  | [], _, _ => rfl
  | p :: l, i, q => by show (come b (i + 1) (q + 1) l).length + 1 = _; rw [come_lenI b l]; rfl

theorem come_atI (b : Int) : ∀ (l : List (ByteArray × ByteArray)) (i q : Int) (j : Nat) (m : MsgV), (come b i q l)[j]? = some m → j < l.length ∧ m.id = makeZ b (i + (j : Int)) ∧ m.seq = q + (j : Int)
  | [], _, _, _, _, h => by simp [come] at h
  | p :: l, i, q, 0, m, h => by
    simp [come] at h
    subst h
    exact ⟨by simp, by simp, by simp⟩
  | p :: l, i, q, j + 1, m, h => by
    have h2 : (come b (i + 1) (q + 1) l)[j]? = some m := h
    obtain ⟨a1, a2, a3⟩ := come_atI b l (i + 1) (q + 1) j m h2
    refine ⟨by simp; omega, ?_, by rw [a3]; push_cast; omega⟩
    rw [a2]
    congr 1
    push_cast
    omega

theorem make_okI {b n : Int} (hb : brokerB b = true) (h1 : 1 ≤ n) (h2 : n < 4294967296) : makeZ b n = b * 4294967296 + n := by
  unfold makeZ
  rw [if_pos ⟨hb, h1, h2⟩]

/-- What a record makes new: the ids one above the last. -/
theorem ids_step {s : StV} (hm : MayP s) (hr : Roomy s) (r : RecV) : ∃ o n : Nat, (applyS s r).ms.length = o + n ∧ (applyS s r).nextId = s.nextId + (n : Int) ∧ (0 < n → makeZ s.broker s.nextId = s.broker * 4294967296 + s.nextId) ∧
    ∀ (k : Nat) (m : MsgV), (applyS s r).ms[k]? = some m → (k < o ∧ 0 ≤ placeI (fun x : MsgV => decide (x.id = m.id)) s.ms) ∨
      (o ≤ k ∧ placeI (fun x : MsgV => decide (x.id = m.id)) s.ms < 0 ∧ makeZ s.broker (s.nextId + ((k - o : Nat) : Int)) = m.id ∧ m.id = s.broker * 4294967296 + s.nextId + ((k - o : Nat) : Int) ∧ m.seq = s.nextSeq + ((k - o : Nat) : Int)) := by
  obtain ⟨old, l', h1, h2, h3, -⟩ := applyS_ms s r
  have hm2 := (applyS_may r hm hr).1
  have hid := hm2.id2
  have hi1 := hm.id1
  rw [h3] at hid
  refine ⟨old.length, l'.length, by rw [h1, List.length_append, come_lenI], h3, fun hn => make_okI hm.broker hi1 (by omega), fun k m hk => ?_⟩
  rw [h1] at hk
  by_cases hko : k < old.length
  · left
    rw [List.getElem?_append_left hko] at hk
    obtain ⟨m0, h0, he⟩ := h2 m (List.mem_of_getElem? hk)
    refine ⟨hko, ?_⟩
    rcases place_find (fun x : MsgV => decide (x.id = m.id)) s.ms with ⟨-, hn⟩ | ⟨q, y, hq, -, -⟩
    · have := List.find?_eq_none.1 hn m0 h0
      simp [he] at this
    · omega
  · right
    rw [List.getElem?_append_right (by omega)] at hk
    obtain ⟨a1, a2, a3⟩ := come_atI _ _ _ _ _ _ hk
    have hmk := make_okI (n := s.nextId + ((k - old.length : Nat) : Int)) hm.broker (by omega) (by omega)
    refine ⟨by omega, ?_, a2.symm, by rw [a2, hmk]; omega, a3⟩
    rw [place_none (fun i y hy => ?_)]
    · omega
    · have hp := hm.ms y (List.mem_of_getElem? hy)
      obtain ⟨-, -, -, h4, -⟩ := hp
      rw [a2, hmk]
      simp
      omega

end Go.Proofs.YtjhlfjgfohoflaaGreat

/-
  A region that draws its order, where two operations may come up next.
-/
namespace Go.Proofs.YtjhlfjgfohoflaaGreat
open Go

section
variable {P : Program} {md : Region.Mode} {ops : Array Oper} {Q : Exit → Act → World → Prop} {S : World → Prop} {late : List Nat}

/-- One of the two that come up. -/
theorem Ph.two {i j k : Nat} {oi oj : Oper} {L : Array Bool} {a : Act} {w : World} (hr : Region.ready md ops L = [i, j]) (hi : ops[i]? = some oi) (hj : ops[j]? = some oj)
    (h1 : ∀ K : Act → World → Prop, (∀ b x, S x → (S x → Ph P md ops Q S late k (L.setIfInBounds i true) b x) → K b x) → if Region.wanted oi (yielded ops a.tmps) = true then Oper.wp P oi a w K Q else K (a.put oi.dst undef) w)
    (h2 : ∀ K : Act → World → Prop, (∀ b x, S x → (S x → Ph P md ops Q S late k (L.setIfInBounds j true) b x) → K b x) → if Region.wanted oj (yielded ops a.tmps) = true then Oper.wp P oj a w K Q else K (a.put oj.dst undef) w) :
    Ph P md ops Q S late (k + 1) L a w := by
  refine ⟨fun h0 => (by rw [hr] at h0; cases h0), fun m hm => ?_⟩
  rw [hr] at hm
  rcases List.mem_cons.1 hm with e | hm
  · subst e
    exact wpOp_step hi (fun K hK => h1 K (fun b x hS hP => hK b x ⟨.inr hS, hP hS⟩))
  · have e : m = j := by simpa using hm
    subst e
    exact wpOp_step hj (fun K hK => h2 K (fun b x hS hP => hK b x ⟨.inr hS, hP hS⟩))

/-- An operation that isn't wanted is taken first. -/
theorem Ph.skip {i k : Nat} {oi : Oper} {d : Option Tmp} {L : Array Bool} {a : Act} {w : World} (hi : ops[i]? = some oi) (hd : oi.dst = d) (hs : Region.noSelect ops = true) (hw : (late.all fun j => Region.waitsFor md ops j i) = true) (hf : Region.free md ops L i = true)
    (hr : (Region.ready md ops L).contains i = true) (hQ : ∀ c a w, Q (.panic c) (a.put d undef) w → Q (.panic c) a w) (hwt : Region.wanted oi (yielded ops a.tmps) = false) (hS : S w)
    (h : Ph P md ops Q S late k (L.setIfInBounds i true) (a.put d undef) w) : Ph P md ops Q S late (k + 1) L a w := by
  subst hd
  exact Ph.early hi hs hw hQ k L a w (Region.free_spec hi hf) (by simpa using hr) (.inr ⟨hwt, rfl⟩) hS h

end

end Go.Proofs.YtjhlfjgfohoflaaGreat

/-
  The walk of the law StoreIds.
-/
namespace Go.Proofs.YtjhlfjgfohoflaaGreat
open Go.RowKit Go.Proofs.YtjhlfjgfohoflaaGreat.V

theorem tmod8 (c : Int) : -7 ≤ c.tmod 8 ∧ c.tmod 8 ≤ 7 := by
  have h1 := Int.tmod_lt_of_pos c (b := 8) (by omega)
  have h2 := Int.lt_tmod_of_pos c (b := 8) (by omega)
  omega

theorem cut_sz (l : List (ByteArray × ByteArray)) : ∀ i, i < ((l.take 12).map cutP).length → (((l.take 12).map cutP).getD i putNone).1.size ≤ 9223372036854775807 ∧ (((l.take 12).map cutP).getD i putNone).2.size ≤ 9223372036854775807 := fun i hi => by
  have h12 : ∀ (s : ByteArray) (n : Nat), n ≤ 100 → (cutN s n).size ≤ 9223372036854775807 := fun s n hn => by
    have : (cutN s n).size = (s.data.toList.take n).length := by
      show (s.data.toList.take n).toArray.size = _
      rw [List.size_toArray]
    rw [this, List.length_take]
    omega
  have e : ∃ p, ((l.take 12).map cutP).getD i putNone = cutP p := by
    have hi2 : i < (l.take 12).length := by simpa using hi
    exact ⟨(l.take 12)[i], by simp only [List.getD, List.getElem?_map, List.getElem?_eq_getElem hi2]; rfl⟩
  obtain ⟨p, e⟩ := e
  rw [e]
  exact ⟨h12 _ _ (by omega), h12 _ _ (by omega)⟩

set_option maxHeartbeats 16000000 in
set_option maxRecDepth 100000 in
theorem storeIds_walk {w : World} (n0 : Int) (_ : (Lit.int .i64 n0).wf = true) (ao : Option Addr) (c : Nat) (l : List LayR) (hl : Rls w ao c l) : Calls Tryz.prog 10 #[.int .i64 n0, .slice ao l.length c] w fun e w' => e = .returned (.bool true) ∧ Below w.heap.size w w' := by
  have CB := Lib.hid (begun10_calls w)
  have HL := Lib.hid hl
  have hlen := hl.len
  clear hl
  have hr1 := tmod8 n0
  obtain ⟨z, hz⟩ : ∃ z, Int.tmod n0 8 = z := ⟨_, rfl⟩
  rw [hz] at hr1
  obtain ⟨j, hj, hjm, hj9⟩ : ∃ j : Nat, Int.tmod (z + 8) 8 = (j : Int) ∧ (z + 8) % 8 = (j : Int) ∧ j ≤ 7 := ⟨((z + 8) % 8).toNat, by rw [Int.tmod_eq_emod_of_nonneg (by omega)]; omega, by omega, by omega⟩
  obtain ⟨br, hbr⟩ : ∃ n : Nat, n = 1 + j := ⟨_, rfl⟩
  have hnj : (1 : Int) + (j : Int) = (br : Int) := by omega
  have hb8 : br ≤ 8 := by omega
  have hb1 : 1 ≤ br := by omega
  clear hbr
  go_enter Tryz.func10, Tryz.ntmps10
  go_wp2_with fail
  refine CB.out.mono ?_
  rintro e x1 ⟨rfl, t1⟩
  have CN := Lib.hid (stNew_calls (br : Int) x1)
  have T1 := Lib.hid t1
  have HN := Lib.hid (new_may (b := (br : Int)) (by unfold brokerB; rw [decide_eq_true]; omega))
  have HN1 : Hid ((newS (br : Int)).nextId = 1 ∧ (newS (br : Int)).broker = (br : Int)) := Lib.hid (by
    unfold newS
    rw [if_pos (by unfold brokerB; rw [decide_eq_true]; omega)]
    exact ⟨rfl, rfl⟩)
  obtain ⟨s0, hs0⟩ : ∃ s, s = newS (br : Int) := ⟨_, rfl⟩
  rw [← hs0] at CN HN HN1
  obtain ⟨aN, haN⟩ : ∃ a, a = noAds := ⟨_, rfl⟩
  rw [← haN] at CN
  clear haN hs0 t1 CB
  go_wp2_with fail
  refine CN.out.mono ?_
  rintro e xN ⟨rfl, isN, tN⟩
  have nb := Bx.new isN
  rw [show s0.cells aN = #[.int .i64 s0.broker, .int .i64 s0.nextId, .int .i64 s0.nextSeq, .int .i64 s0.tx, .slice aN.m s0.ms.length aN.cm, .slice aN.w s0.waits.length aN.cw, .slice aN.e s0.ends.length aN.ce, .slice aN.o s0.open_.length aN.co, .slice aN.n s0.noes.length aN.cn] from rfl] at nb
  have ta := Turn.alloc [] xN (.cells #[.int .i64 s0.broker, .int .i64 s0.nextId, .int .i64 s0.nextSeq, .int .i64 s0.tx, .slice aN.m s0.ms.length aN.cm, .slice aN.w s0.waits.length aN.cw, .slice aN.e s0.ends.length aN.ce, .slice aN.o s0.open_.length aN.co, .slice aN.n s0.noes.length aN.cn] 27)
  have TN := Lib.hid ((T1.out.trans tN (by simp)).trans ta (by simp))
  have HWB : Hid (w.heap.size ≤ xN.heap.size) := Lib.hid (T1.out.trans tN (by simp)).size
  have BN := Lib.hid nb
  rw [show s0.cells aN = #[.int .i64 s0.broker, .int .i64 s0.nextId, .int .i64 s0.nextSeq, .int .i64 s0.tx, .slice aN.m s0.ms.length aN.cm, .slice aN.w s0.waits.length aN.cw, .slice aN.e s0.ends.length aN.ce, .slice aN.o s0.open_.length aN.co, .slice aN.n s0.noes.length aN.cn] from rfl]
  clear nb ta isN tN T1 CN
  go_upto_region 8 with fail
  generalize hy : xN.alloc (.cells #[.int .i64 s0.broker, .int .i64 s0.nextId, .int .i64 s0.nextSeq, .int .i64 s0.tx, .slice aN.m s0.ms.length aN.cm, .slice aN.w s0.waits.length aN.cw, .slice aN.e s0.ends.length aN.ce, .slice aN.o s0.open_.length aN.co, .slice aN.n s0.noes.length aN.cn] 27) = y at *
  obtain ⟨b, hb⟩ : ∃ b, b = xN.heap.size := ⟨_, rfl⟩
  rw [← hb] at BN HWB ⊢
  clear hy hb hz hr1 hj hjm hj9 hnj
  go_loopw [7, 8, 9, 10, 11] (fun v7 v8 v9 v10 v11 wx => ∃ (i : Nat) (a : Ads) (s : StV) (u9 u10 u11 : Value), u9 = v9 ∧ u10 = v10 ∧ u11 = v11 ∧ v7 = .int .i64 (s.nextId - 1) ∧ v8 = .int .i64 (i : Int) ∧ i ≤ l.length ∧ i ≤ 40 ∧ MayP s ∧ Roomy s ∧ s.broker = (br : Int) ∧ Bx wx b a s ∧ Turn [] w wx) (fun _ v8 _ _ _ _ => l.length - (intOf v8).toNat)
  case atStart => exact ⟨0, aN, s0, _, _, _, rfl, rfl, rfl, by rw [HN1.out.1]; rfl, rfl, by omega, by omega, HN.out.1, HN.out.2, HN1.out.2, BN.out, TN.out⟩
  case round =>
    obtain ⟨i, a, s, u9, u10, u11, rfl, rfl, rfl, rfl, rfl, hi1, hi2, hmay, hroom, hbrk, hbx, ht⟩ := hrel
    have HM := Lib.hid hmay
    have HRM := Lib.hid hroom
    have HBK := Lib.hid hbrk
    have HX := Lib.hid hbx
    have HT := Lib.hid ht
    clear hmay hroom hbrk hbx ht BN TN HN HN1
    by_cases q1 : i < l.length ∧ i < 40
    · obtain ⟨q1, q2⟩ := q1
      obtain ⟨gl, ol, el, hat⟩ := HL.out.at (by intro e; rw [e] at q1; simp at q1)
      subst el
      obtain ⟨⟨rv, ra, rca, rq, rcq⟩, hrr⟩ : ∃ x, x = l.getD i layNone := ⟨_, rfl⟩
      have hok := HL.out.2 i q1
      have hc := hat i q1
      rw [← hrr] at hok hc
      have HOK := Lib.hid hok
      have hc0 := HT.out.cell (hc 0 (.int .i64 rv.kind) rfl) (by simp)
      have hc1 := HT.out.cell (hc 1 (.int .i64 rv.tid) rfl) (by simp)
      have hc2 := HT.out.cell (hc 2 (.int .i64 rv.id) rfl) (by simp)
      have hc3 := HT.out.cell (hc 3 (.bool rv.yes) rfl) (by simp)
      have hc4 := HT.out.cell (hc 4 (.slice ra rv.parts.length rca) rfl) (by simp)
      have hc5 := HT.out.cell (hc 5 (.slice rq rv.puts.length rcq) rfl) (by simp)
      rw [Nat.add_zero] at hc0
      have hh := HX.out.head
      rw [show s.cells a = #[.int .i64 s.broker, .int .i64 s.nextId, .int .i64 s.nextSeq, .int .i64 s.tx, .slice a.m s.ms.length a.cm, .slice a.w s.waits.length a.cw, .slice a.e s.ends.length a.ce, .slice a.o s.open_.length a.co, .slice a.n s.noes.length a.cn] from rfl] at hh
      obtain ⟨c0, c1, c2, c3, c4, c5, c6, c7, c8⟩ := nine_of hh
      have HSX : Hid (∀ x, Turn [] wr x → x.cell? ⟨b, 0, none⟩ = some (.int .i64 s.broker) ∧ x.cell? ⟨b, 1, none⟩ = some (.int .i64 s.nextId) ∧ x.cell? ⟨b, 2, none⟩ = some (.int .i64 s.nextSeq) ∧ x.cell? ⟨b, 3, none⟩ = some (.int .i64 s.tx) ∧ x.cell? ⟨b, 4, none⟩ = some (.slice a.m s.ms.length a.cm) ∧ x.cell? ⟨b, 5, none⟩ = some (.slice a.w s.waits.length a.cw) ∧ x.cell? ⟨b, 6, none⟩ = some (.slice a.e s.ends.length a.ce) ∧ x.cell? ⟨b, 7, none⟩ = some (.slice a.o s.open_.length a.co) ∧ x.cell? ⟨b, 8, none⟩ = some (.slice a.n s.noes.length a.cn) ∧ x.cell? ⟨gl, ol + i * 6, none⟩ = some (.int .i64 rv.kind) ∧ x.cell? ⟨gl, ol + i * 6 + 1, none⟩ = some (.int .i64 rv.tid) ∧ x.cell? ⟨gl, ol + i * 6 + 2, none⟩ = some (.int .i64 rv.id) ∧ x.cell? ⟨gl, ol + i * 6 + 3, none⟩ = some (.bool rv.yes) ∧ x.cell? ⟨gl, ol + i * 6 + 4, none⟩ = some (.slice ra rv.parts.length rca) ∧ x.cell? ⟨gl, ol + i * 6 + 5, none⟩ = some (.slice rq rv.puts.length rcq)) := Lib.hid (fun x t => ⟨t.cell c0 (by simp), t.cell c1 (by simp), t.cell c2 (by simp), t.cell c3 (by simp), t.cell c4 (by simp), t.cell c5 (by simp), t.cell c6 (by simp), t.cell c7 (by simp), t.cell c8 (by simp), t.cell hc0 (by simp), t.cell hc1 (by simp), t.cell hc2 (by simp), t.cell hc3 (by simp), t.cell hc4 (by simp), t.cell hc5 (by simp)⟩)
      clear c0 c1 c2 c3 c4 c5 c6 c7 c8 hc0 hc1 hc2 hc3 hc4 hc5 hc hh hat hrr hok
      have C := fun (x : World) (td : Turn [] w x) => lawRecord_calls rv (w := x) (HOK.out.p.turn td) (HOK.out.q.turn td)
      rw [show rv.cells ra rca rq rcq = #[.int .i64 rv.kind, .int .i64 rv.tid, .int .i64 rv.id, .bool rv.yes, .slice ra rv.parts.length rca, .slice rq rv.puts.length rcq] from rfl] at C
      have HC1 := Lib.hid C
      obtain ⟨u, hu⟩ : ∃ u, u = applyS s (recCut rv) := ⟨_, rfl⟩
      have HMU := Lib.hid (applyS_may (recCut rv) HM.out HRM.out)
      have HID := Lib.hid (ids_step HM.out HRM.out (recCut rv))
      have HBU := Lib.hid (applyS_broker s (recCut rv))
      rw [← hu] at HMU HID HBU
      have C := fun (x : World) (td : Turn [] wr x) (ap aq : Option Addr) (cp cq : Nat) (hp : Il x ap cp (recCut rv).parts) (hq : Ps x aq cq (recCut rv).puts) => apply_rows (HX.out.is.still td) HM.out (recCut rv) ap aq cp cq hp hq HOK.out.t HOK.out.d hu.symm
      rw [show s.cells a = #[.int .i64 s.broker, .int .i64 s.nextId, .int .i64 s.nextSeq, .int .i64 s.tx, .slice a.m s.ms.length a.cm, .slice a.w s.waits.length a.cw, .slice a.e s.ends.length a.ce, .slice a.o s.open_.length a.co, .slice a.n s.noes.length a.cn] from rfl] at C
      have HC2 := Lib.hid C
      have HIP : Hid (∀ n ∈ rv.parts.take 9, -9223372036854775808 ≤ n ∧ n ≤ 9223372036854775807) := Lib.hid (fun n hn => by
        rcases HOK.out.p with ⟨-, -, e⟩ | ⟨A, -, -, -, -, h5⟩
        · rw [e] at hn; simp at hn
        · exact h5 n (List.mem_of_mem_take hn))
      clear C hu
      have hd40 : decide ((i : Int) < 40) = true := decide_eq_true (by omega)
      go_upto_region 10 with fail
      try rw [hd40]
      have TD := Lib.hid (Turn.drew [] wr)
      have hb : 0 ≤ (i : Int) ∧ (i : Int) < (l.length : Int) := by omega
      go_cut [9] from 32 to 38 (fun v9 wx => ∃ (p lo : Nat) (a8 : Ads) (LW : List (Lay BrV)) (LO LN : List (Lay PendV)), v9 = .pointer (some ⟨p, 0, none⟩) ∧ Bx wx p a8 u ∧ Rows wx lo u a8 LW LO LN ∧ wr.heap.size ≤ p ∧ Turn [] wr wx)
      case first =>
        refine Ph.start [] (fun x => x.cell? ⟨b, 0, none⟩ = some (.int .i64 s.broker) ∧ x.cell? ⟨b, 1, none⟩ = some (.int .i64 s.nextId) ∧ x.cell? ⟨b, 2, none⟩ = some (.int .i64 s.nextSeq) ∧ x.cell? ⟨b, 3, none⟩ = some (.int .i64 s.tx) ∧ x.cell? ⟨b, 4, none⟩ = some (.slice a.m s.ms.length a.cm) ∧ x.cell? ⟨b, 5, none⟩ = some (.slice a.w s.waits.length a.cw) ∧ x.cell? ⟨b, 6, none⟩ = some (.slice a.e s.ends.length a.ce) ∧ x.cell? ⟨b, 7, none⟩ = some (.slice a.o s.open_.length a.co) ∧ x.cell? ⟨b, 8, none⟩ = some (.slice a.n s.noes.length a.cn) ∧ x.cell? ⟨gl, ol + i * 6, none⟩ = some (.int .i64 rv.kind) ∧ x.cell? ⟨gl, ol + i * 6 + 1, none⟩ = some (.int .i64 rv.tid) ∧ x.cell? ⟨gl, ol + i * 6 + 2, none⟩ = some (.int .i64 rv.id) ∧ x.cell? ⟨gl, ol + i * 6 + 3, none⟩ = some (.bool rv.yes) ∧ x.cell? ⟨gl, ol + i * 6 + 4, none⟩ = some (.slice ra rv.parts.length rca) ∧ x.cell? ⟨gl, ol + i * 6 + 5, none⟩ = some (.slice rq rv.puts.length rcq)) (by kernel_rfl) (HSX.out _ TD.out) ?_
        intro hS
        refine Ph.take (i := 0) (d := some 32) (v := ?_) rfl (by rfl) (by kernel_rfl) (by kernel_rfl) (by kernel_rfl) (by kernel_rfl) (fun _ _ _ h => h) (by rfl) hS ?_ ?_
        rotate_left
        · intro x hx
          obtain ⟨y0, y1, y2, y3, y4, y5, y6, y7, y8, y9, y10, y11, y12, y13, y14⟩ := hx
          go_simp
          try with_reducible rfl
        simp only [Act.put, List.setIfInBounds_toArray, List.set_cons_zero, List.set_cons_succ]
        refine Ph.take (i := 1) (d := some 33) (v := ?_) rfl (by rfl) (by kernel_rfl) (by kernel_rfl) (by kernel_rfl) (by kernel_rfl) (fun _ _ _ h => h) (by rfl) hS ?_ ?_
        rotate_left
        · intro x hx
          go_simp
          try with_reducible rfl
        simp only [Act.put, List.setIfInBounds_toArray, List.set_cons_zero, List.set_cons_succ]
        refine Ph.take (i := 2) (d := some 34) (v := ?_) rfl (by rfl) (by kernel_rfl) (by kernel_rfl) (by kernel_rfl) (by kernel_rfl) (fun _ _ _ h => h) (by rfl) hS ?_ ?_
        rotate_left
        · intro x hx
          go_simp
          try with_reducible rfl
        simp only [Act.put, List.setIfInBounds_toArray, List.set_cons_zero, List.set_cons_succ]
        refine Ph.take (i := 3) (d := some 35) (v := ?_) rfl (by rfl) (by kernel_rfl) (by kernel_rfl) (by kernel_rfl) (by kernel_rfl) (fun _ _ _ h => h) (by rfl) hS ?_ ?_
        rotate_left
        · intro x hx
          go_simp
          try with_reducible rfl
        simp only [Act.put, List.setIfInBounds_toArray, List.set_cons_zero, List.set_cons_succ]
        refine Ph.take (i := 4) (d := some 36) (v := ?_) rfl (by rfl) (by kernel_rfl) (by kernel_rfl) (by kernel_rfl) (by kernel_rfl) (fun _ _ _ h => h) (by rfl) hS ?_ ?_
        rotate_left
        · intro x hx
          obtain ⟨y0, y1, y2, y3, y4, y5, y6, y7, y8, y9, y10, y11, y12, y13, y14⟩ := hx
          go_simp
          try with_reducible rfl
        simp only [Act.put, List.setIfInBounds_toArray, List.set_cons_zero, List.set_cons_succ]
        refine Ph.two (i := 5) (j := 7) (by kernel_rfl) rfl rfl ?_ ?_
        · intro K hK
          rw [if_pos (by rfl)]
          go_simp
          refine (HC1.out _ (HT.out.trans TD.out (by simp))).mono ?_
          rintro e x7 ⟨ap, cp, aq, cq, rfl, hp7, hq7, -, -, tA⟩
          have T7 := Lib.hid (TD.out.trans tA (by simp))
          have IP := Lib.hid (own_il hp7 HIP.out)
          have IQ := Lib.hid (own_ps hq7 (cut_sz _))
          clear hp7 hq7 tA HC1
          dsimp only
          refine hK _ _ (HSX.out _ T7.out) (fun hS7 => ?_)
          clear hK K
          refine Ph.two (i := 6) (j := 7) (by kernel_rfl) rfl rfl ?_ ?_
          · intro K hK
            rw [if_pos (by rfl)]
            go_simp
            refine (HC2.out _ T7.out ap aq cp cq IP.out IQ.out).mono ?_
            rintro e x8 ⟨a8, LW, LO, LN, rfl, r8, t8⟩
            have T8 := Lib.hid (T7.out.trans t8 (by simp))
            have R8 := Lib.hid r8
            clear r8 t8 HC2
            dsimp only
            refine hK _ _ (HSX.out _ T8.out) (fun hS8 => ?_)
            clear hK K
            refine Ph.one (i := 7) (by kernel_rfl) rfl ?_
            intro K hK
            rw [if_pos (by rfl)]
            go_simp
            refine hK _ _ (HSX.out _ (T8.out.trans (Turn.alloc [] x8 (.cells #[.int .i64 0, .int .i64 0, .int .i64 0, .int .i64 0, .slice none 0 0, .slice none 0 0, .slice none 0 0, .slice none 0 0, .slice none 0 0] 27)) (by simp))) (fun hS9 => ?_)
            clear hK K
            rw [show u.cells a8 = #[.int .i64 u.broker, .int .i64 u.nextId, .int .i64 u.nextSeq, .int .i64 u.tx, .slice a8.m u.ms.length a8.cm, .slice a8.w u.waits.length a8.cw, .slice a8.e u.ends.length a8.ce, .slice a8.o u.open_.length a8.co, .slice a8.n u.noes.length a8.cn] from rfl]
            refine Ph.one (i := 8) (by kernel_rfl) rfl ?_
            intro K hK
            rw [if_pos (by rfl)]
            go_simp
            have BE : Hid (Bx (x8.alloc (.cells (u.cells a8) 27)) x8.heap.size a8 u ∧ Rows (x8.alloc (.cells (u.cells a8) 27)) _ u a8 LW LO LN) := Lib.hid ⟨Bx.new (R8.out.is HMU.out.1.deep), R8.out.still (Turn.alloc [] x8 _)⟩
            have TE : Hid (Turn [] wr (x8.alloc (.cells (u.cells a8) 27))) := Lib.hid (T8.out.trans (Turn.alloc [] x8 _) (by simp))
            rw [show u.cells a8 = #[.int .i64 u.broker, .int .i64 u.nextId, .int .i64 u.nextSeq, .int .i64 u.tx, .slice a8.m u.ms.length a8.cm, .slice a8.w u.waits.length a8.cw, .slice a8.e u.ends.length a8.ce, .slice a8.o u.open_.length a8.co, .slice a8.n u.noes.length a8.cn] from rfl] at BE TE
            refine hK _ _ (HSX.out _ TE.out) (fun _ => Ph.done (by kernel_rfl) ?_ _)
            clear hK K
            go_wp2_with fail
            go_meet
            exact ⟨x8.heap.size, _, a8, LW, LO, LN, rfl, BE.out.1, BE.out.2, T8.out.size, TE.out⟩
          · intro K hK
            rw [if_pos (by rfl)]
            go_simp
            have BZ : Hid (Bx (x7.alloc (.cells #[.int .i64 0, .int .i64 0, .int .i64 0, .int .i64 0, .slice none 0 0, .slice none 0 0, .slice none 0 0, .slice none 0 0, .slice none 0 0] 27)) x7.heap.size noAds sZ) := Lib.hid (Bx.new (StZ x7))
            have TA := Lib.hid (T7.out.trans (Turn.alloc [] x7 (.cells #[.int .i64 0, .int .i64 0, .int .i64 0, .int .i64 0, .slice none 0 0, .slice none 0 0, .slice none 0 0, .slice none 0 0, .slice none 0 0] 27)) (by simp))
            refine hK _ _ (HSX.out _ TA.out) (fun hS9 => ?_)
            clear hK K
            have IP := Lib.hid (IP.out.turn (Turn.alloc [] x7 (.cells #[.int .i64 0, .int .i64 0, .int .i64 0, .int .i64 0, .slice none 0 0, .slice none 0 0, .slice none 0 0, .slice none 0 0, .slice none 0 0] 27)))
            have IQ := Lib.hid (IQ.out.turn (Turn.alloc [] x7 (.cells #[.int .i64 0, .int .i64 0, .int .i64 0, .int .i64 0, .slice none 0 0, .slice none 0 0, .slice none 0 0, .slice none 0 0, .slice none 0 0] 27)))
            refine Ph.one (i := 6) (by kernel_rfl) rfl ?_
            intro K hK
            rw [if_pos (by rfl)]
            go_simp
            refine (HC2.out _ TA.out ap aq cp cq IP.out IQ.out).mono ?_
            rintro e x8 ⟨a8, LW, LO, LN, rfl, r8, t8⟩
            have T8 := Lib.hid (TA.out.trans t8 (by simp))
            have R8 := Lib.hid r8
            have BZ := Lib.hid (BZ.out.still t8)
            clear r8 t8 HC2
            dsimp only
            refine hK _ _ (HSX.out _ T8.out) (fun hS8 => ?_)
            clear hK K
            rw [show u.cells a8 = #[.int .i64 u.broker, .int .i64 u.nextId, .int .i64 u.nextSeq, .int .i64 u.tx, .slice a8.m u.ms.length a8.cm, .slice a8.w u.waits.length a8.cw, .slice a8.e u.ends.length a8.ce, .slice a8.o u.open_.length a8.co, .slice a8.n u.noes.length a8.cn] from rfl]
            have sx := bx_store2 BZ.out R8.out HMU.out.1
            have SX : Hid (Bx (((((((((x8.setCell ⟨x7.heap.size, 0, none⟩ (.int .i64 u.broker)).setCell ⟨x7.heap.size, 1, none⟩ (.int .i64 u.nextId)).setCell ⟨x7.heap.size, 2, none⟩ (.int .i64 u.nextSeq)).setCell ⟨x7.heap.size, 3, none⟩ (.int .i64 u.tx)).setCell ⟨x7.heap.size, 4, none⟩ (.slice a8.m u.ms.length a8.cm)).setCell ⟨x7.heap.size, 5, none⟩ (.slice a8.w u.waits.length a8.cw)).setCell ⟨x7.heap.size, 6, none⟩ (.slice a8.e u.ends.length a8.ce)).setCell ⟨x7.heap.size, 7, none⟩ (.slice a8.o u.open_.length a8.co)).setCell ⟨x7.heap.size, 8, none⟩ (.slice a8.n u.noes.length a8.cn)) x7.heap.size a8 u ∧ Turn [x7.heap.size] x8 (((((((((x8.setCell ⟨x7.heap.size, 0, none⟩ (.int .i64 u.broker)).setCell ⟨x7.heap.size, 1, none⟩ (.int .i64 u.nextId)).setCell ⟨x7.heap.size, 2, none⟩ (.int .i64 u.nextSeq)).setCell ⟨x7.heap.size, 3, none⟩ (.int .i64 u.tx)).setCell ⟨x7.heap.size, 4, none⟩ (.slice a8.m u.ms.length a8.cm)).setCell ⟨x7.heap.size, 5, none⟩ (.slice a8.w u.waits.length a8.cw)).setCell ⟨x7.heap.size, 6, none⟩ (.slice a8.e u.ends.length a8.ce)).setCell ⟨x7.heap.size, 7, none⟩ (.slice a8.o u.open_.length a8.co)).setCell ⟨x7.heap.size, 8, none⟩ (.slice a8.n u.noes.length a8.cn)) ∧ Rows (((((((((x8.setCell ⟨x7.heap.size, 0, none⟩ (.int .i64 u.broker)).setCell ⟨x7.heap.size, 1, none⟩ (.int .i64 u.nextId)).setCell ⟨x7.heap.size, 2, none⟩ (.int .i64 u.nextSeq)).setCell ⟨x7.heap.size, 3, none⟩ (.int .i64 u.tx)).setCell ⟨x7.heap.size, 4, none⟩ (.slice a8.m u.ms.length a8.cm)).setCell ⟨x7.heap.size, 5, none⟩ (.slice a8.w u.waits.length a8.cw)).setCell ⟨x7.heap.size, 6, none⟩ (.slice a8.e u.ends.length a8.ce)).setCell ⟨x7.heap.size, 7, none⟩ (.slice a8.o u.open_.length a8.co)).setCell ⟨x7.heap.size, 8, none⟩ (.slice a8.n u.noes.length a8.cn)) _ u a8 LW LO LN) := Lib.hid sx
            have hh := BZ.out.head
            rw [show sZ.cells noAds = #[.int .i64 0, .int .i64 0, .int .i64 0, .int .i64 0, .slice none 0 0, .slice none 0 0, .slice none 0 0, .slice none 0 0, .slice none 0 0] from rfl] at hh
            obtain ⟨c0, c1, c2, c3, c4, c5, c6, c7, c8⟩ := nine_of hh
            have f0 : ∀ j, x8.frozen? ⟨x7.heap.size, j, none⟩ = false := fun j => unfrozen_of hh
            have HPP : Hid (wr.heap.size ≤ x7.heap.size) := Lib.hid (by first | exact Nat.le_refl _ | exact T7.out.size)
            have TE : Hid (Turn [] wr (((((((((x8.setCell ⟨x7.heap.size, 0, none⟩ (.int .i64 u.broker)).setCell ⟨x7.heap.size, 1, none⟩ (.int .i64 u.nextId)).setCell ⟨x7.heap.size, 2, none⟩ (.int .i64 u.nextSeq)).setCell ⟨x7.heap.size, 3, none⟩ (.int .i64 u.tx)).setCell ⟨x7.heap.size, 4, none⟩ (.slice a8.m u.ms.length a8.cm)).setCell ⟨x7.heap.size, 5, none⟩ (.slice a8.w u.waits.length a8.cw)).setCell ⟨x7.heap.size, 6, none⟩ (.slice a8.e u.ends.length a8.ce)).setCell ⟨x7.heap.size, 7, none⟩ (.slice a8.o u.open_.length a8.co)).setCell ⟨x7.heap.size, 8, none⟩ (.slice a8.n u.noes.length a8.cn))) := Lib.hid (T8.out.trans SX.out.2.1 (fun i hi => .inr (by have := HPP.out; simp at hi; omega)))
            clear sx hh
            refine Ph.one (i := 8) (by kernel_rfl) rfl ?_
            intro K hK
            rw [if_pos (by rfl)]
            go_simp
            refine hK _ _ (HSX.out _ TE.out) (fun _ => Ph.done (by kernel_rfl) ?_ _)
            clear hK K c0 c1 c2 c3 c4 c5 c6 c7 c8 f0
            go_wp2_with fail
            go_meet
            exact ⟨x7.heap.size, _, a8, LW, LO, LN, rfl, SX.out.1, SX.out.2.2, HPP.out, TE.out⟩
        · intro K hK
          rw [if_pos (by rfl)]
          go_simp
          have BZ : Hid (Bx (wr.drew.alloc (.cells #[.int .i64 0, .int .i64 0, .int .i64 0, .int .i64 0, .slice none 0 0, .slice none 0 0, .slice none 0 0, .slice none 0 0, .slice none 0 0] 27)) wr.heap.size noAds sZ) := Lib.hid (Bx.new (StZ wr.drew))
          have TA := Lib.hid (TD.out.trans (Turn.alloc [] wr.drew (.cells #[.int .i64 0, .int .i64 0, .int .i64 0, .int .i64 0, .slice none 0 0, .slice none 0 0, .slice none 0 0, .slice none 0 0, .slice none 0 0] 27)) (by simp))
          refine hK _ _ (HSX.out _ TA.out) (fun hS9 => ?_)
          clear hK K
          refine Ph.one (i := 5) (by kernel_rfl) rfl ?_
          intro K hK
          rw [if_pos (by rfl)]
          go_simp
          refine (HC1.out _ (HT.out.trans TA.out (by simp))).mono ?_
          rintro e x7 ⟨ap, cp, aq, cq, rfl, hp7, hq7, -, -, tA⟩
          have T7 := Lib.hid (TA.out.trans tA (by simp))
          have IP := Lib.hid (own_il hp7 HIP.out)
          have IQ := Lib.hid (own_ps hq7 (cut_sz _))
          have BZ := Lib.hid (BZ.out.still tA)
          clear hp7 hq7 tA HC1
          dsimp only
          refine hK _ _ (HSX.out _ T7.out) (fun hS7 => ?_)
          clear hK K
          refine Ph.one (i := 6) (by kernel_rfl) rfl ?_
          intro K hK
          rw [if_pos (by rfl)]
          go_simp
          refine (HC2.out _ T7.out ap aq cp cq IP.out IQ.out).mono ?_
          rintro e x8 ⟨a8, LW, LO, LN, rfl, r8, t8⟩
          have T8 := Lib.hid (T7.out.trans t8 (by simp))
          have R8 := Lib.hid r8
          have BZ := Lib.hid (BZ.out.still t8)
          clear r8 t8 HC2
          dsimp only
          refine hK _ _ (HSX.out _ T8.out) (fun hS8 => ?_)
          clear hK K
          rw [show u.cells a8 = #[.int .i64 u.broker, .int .i64 u.nextId, .int .i64 u.nextSeq, .int .i64 u.tx, .slice a8.m u.ms.length a8.cm, .slice a8.w u.waits.length a8.cw, .slice a8.e u.ends.length a8.ce, .slice a8.o u.open_.length a8.co, .slice a8.n u.noes.length a8.cn] from rfl]
          have sx := bx_store2 BZ.out R8.out HMU.out.1
          have SX : Hid (Bx (((((((((x8.setCell ⟨wr.heap.size, 0, none⟩ (.int .i64 u.broker)).setCell ⟨wr.heap.size, 1, none⟩ (.int .i64 u.nextId)).setCell ⟨wr.heap.size, 2, none⟩ (.int .i64 u.nextSeq)).setCell ⟨wr.heap.size, 3, none⟩ (.int .i64 u.tx)).setCell ⟨wr.heap.size, 4, none⟩ (.slice a8.m u.ms.length a8.cm)).setCell ⟨wr.heap.size, 5, none⟩ (.slice a8.w u.waits.length a8.cw)).setCell ⟨wr.heap.size, 6, none⟩ (.slice a8.e u.ends.length a8.ce)).setCell ⟨wr.heap.size, 7, none⟩ (.slice a8.o u.open_.length a8.co)).setCell ⟨wr.heap.size, 8, none⟩ (.slice a8.n u.noes.length a8.cn)) wr.heap.size a8 u ∧ Turn [wr.heap.size] x8 (((((((((x8.setCell ⟨wr.heap.size, 0, none⟩ (.int .i64 u.broker)).setCell ⟨wr.heap.size, 1, none⟩ (.int .i64 u.nextId)).setCell ⟨wr.heap.size, 2, none⟩ (.int .i64 u.nextSeq)).setCell ⟨wr.heap.size, 3, none⟩ (.int .i64 u.tx)).setCell ⟨wr.heap.size, 4, none⟩ (.slice a8.m u.ms.length a8.cm)).setCell ⟨wr.heap.size, 5, none⟩ (.slice a8.w u.waits.length a8.cw)).setCell ⟨wr.heap.size, 6, none⟩ (.slice a8.e u.ends.length a8.ce)).setCell ⟨wr.heap.size, 7, none⟩ (.slice a8.o u.open_.length a8.co)).setCell ⟨wr.heap.size, 8, none⟩ (.slice a8.n u.noes.length a8.cn)) ∧ Rows (((((((((x8.setCell ⟨wr.heap.size, 0, none⟩ (.int .i64 u.broker)).setCell ⟨wr.heap.size, 1, none⟩ (.int .i64 u.nextId)).setCell ⟨wr.heap.size, 2, none⟩ (.int .i64 u.nextSeq)).setCell ⟨wr.heap.size, 3, none⟩ (.int .i64 u.tx)).setCell ⟨wr.heap.size, 4, none⟩ (.slice a8.m u.ms.length a8.cm)).setCell ⟨wr.heap.size, 5, none⟩ (.slice a8.w u.waits.length a8.cw)).setCell ⟨wr.heap.size, 6, none⟩ (.slice a8.e u.ends.length a8.ce)).setCell ⟨wr.heap.size, 7, none⟩ (.slice a8.o u.open_.length a8.co)).setCell ⟨wr.heap.size, 8, none⟩ (.slice a8.n u.noes.length a8.cn)) _ u a8 LW LO LN) := Lib.hid sx
          have hh := BZ.out.head
          rw [show sZ.cells noAds = #[.int .i64 0, .int .i64 0, .int .i64 0, .int .i64 0, .slice none 0 0, .slice none 0 0, .slice none 0 0, .slice none 0 0, .slice none 0 0] from rfl] at hh
          obtain ⟨c0, c1, c2, c3, c4, c5, c6, c7, c8⟩ := nine_of hh
          have f0 : ∀ j, x8.frozen? ⟨wr.heap.size, j, none⟩ = false := fun j => unfrozen_of hh
          have HPP : Hid (wr.heap.size ≤ wr.heap.size) := Lib.hid (by first | exact Nat.le_refl _ | exact T7.out.size)
          have TE : Hid (Turn [] wr (((((((((x8.setCell ⟨wr.heap.size, 0, none⟩ (.int .i64 u.broker)).setCell ⟨wr.heap.size, 1, none⟩ (.int .i64 u.nextId)).setCell ⟨wr.heap.size, 2, none⟩ (.int .i64 u.nextSeq)).setCell ⟨wr.heap.size, 3, none⟩ (.int .i64 u.tx)).setCell ⟨wr.heap.size, 4, none⟩ (.slice a8.m u.ms.length a8.cm)).setCell ⟨wr.heap.size, 5, none⟩ (.slice a8.w u.waits.length a8.cw)).setCell ⟨wr.heap.size, 6, none⟩ (.slice a8.e u.ends.length a8.ce)).setCell ⟨wr.heap.size, 7, none⟩ (.slice a8.o u.open_.length a8.co)).setCell ⟨wr.heap.size, 8, none⟩ (.slice a8.n u.noes.length a8.cn))) := Lib.hid (T8.out.trans SX.out.2.1 (fun i hi => .inr (by have := HPP.out; simp at hi; omega)))
          clear sx hh
          refine Ph.one (i := 8) (by kernel_rfl) rfl ?_
          intro K hK
          rw [if_pos (by rfl)]
          go_simp
          refine hK _ _ (HSX.out _ TE.out) (fun _ => Ph.done (by kernel_rfl) ?_ _)
          clear hK K c0 c1 c2 c3 c4 c5 c6 c7 c8 f0
          go_wp2_with fail
          go_meet
          exact ⟨wr.heap.size, _, a8, LW, LO, LN, rfl, SX.out.1, SX.out.2.2, HPP.out, TE.out⟩
      case rest =>
        obtain ⟨p, lo, a8, LW, LO, LN, rfl, hbu, hru, hp, ht⟩ := hcut
        have BU := Lib.hid hbu
        have RU := Lib.hid hru
        have TU := Lib.hid ht
        have HPP := Lib.hid hp
        clear hbu hru ht hp HC1 HC2 HSX HOK HIP TD
        obtain ⟨o, nn, hlu, hnid, hmk0, hall⟩ := HID.out
        have HLU := Lib.hid hlu
        have HNID := Lib.hid hnid
        have HMK := Lib.hid hmk0
        have HALL := Lib.hid hall
        have T2 := Lib.hid (HT.out.trans TU.out (by simp))
        have BX2 := Lib.hid (HX.out.still TU.out)
        have hs1 := HM.out.id1
        have hs2 := HM.out.id2
        have hs3 := HM.out.seq1
        have hs4 := HM.out.seq2
        have hu2 := HMU.out.1.id2
        obtain ⟨len, hln⟩ : ∃ n, n = u.ms.length := ⟨_, rfl⟩
        have HLN := Lib.hid hln
        have hlen7 : len ≤ 72 := by rw [hln]; exact HMU.out.1.lms
        clear hlu hnid hmk0 hall HID hln HX HT TU
        go_upto_region 12 with fail
        go_loopw [7, 10, 11] (fun v7 v10 v11 wx => ∃ (k : Nat) (u11 : Value), u11 = v11 ∧ v10 = .int .i64 (k : Int) ∧ k ≤ len ∧ v7 = .int .i64 (s.nextId - 1 + ((k - o : Nat) : Int)) ∧ Turn [] wc wx) (fun _ v10 _ _ => len - (intOf v10).toNat)
        case atStart => exact ⟨0, _, rfl, rfl, by omega, by simp, Turn.refl _ _⟩
        case round =>
          obtain ⟨k, u11, rfl, rfl, hk, rfl, ht⟩ := hrel
          have HTK := Lib.hid ht
          have BUK := Lib.hid (BU.out.still ht)
          have BXK := Lib.hid (BX2.out.still ht)
          clear ht
          have hh := BUK.out.head
          rw [show u.cells a8 = #[.int .i64 u.broker, .int .i64 u.nextId, .int .i64 u.nextSeq, .int .i64 u.tx, .slice a8.m u.ms.length a8.cm, .slice a8.w u.waits.length a8.cw, .slice a8.e u.ends.length a8.ce, .slice a8.o u.open_.length a8.co, .slice a8.n u.noes.length a8.cn] from rfl, ← HLN.out] at hh
          have HHU := Lib.hid hh
          have hg := BXK.out.head
          rw [show s.cells a = #[.int .i64 s.broker, .int .i64 s.nextId, .int .i64 s.nextSeq, .int .i64 s.tx, .slice a.m s.ms.length a.cm, .slice a.w s.waits.length a.cw, .slice a.e s.ends.length a.ce, .slice a.o s.open_.length a.co, .slice a.n s.noes.length a.cn] from rfl] at hg
          have HHS := Lib.hid hg
          obtain ⟨e0, e1, e2, e3, e4, e5, e6, e7, e8⟩ := nine_of hh
          obtain ⟨c0, c1, c2, c3, c4, c5, c6, c7, c8⟩ := nine_of hg
          clear hh hg
          by_cases hkl : k < len
          · obtain ⟨m, hm⟩ : ∃ m, u.ms[k]? = some m := ⟨_, List.getElem?_eq_getElem (by rw [← HLN.out]; exact hkl)⟩
            have hb : 0 ≤ (k : Int) ∧ (k : Int) < (len : Int) := by omega
            obtain ⟨gm, om, eg, hat⟩ := BUK.out.is.ms.at hm
            have q0 := hat 0 (.int .i64 m.id) rfl
            have q3 := hat 3 (.int .i64 m.seq) rfl
            rw [Nat.add_zero] at q0
            have C := refAtMs_calls m.id BXK.out.is
            rw [show s.cells a = #[.int .i64 s.broker, .int .i64 s.nextId, .int .i64 s.nextSeq, .int .i64 s.tx, .slice a.m s.ms.length a.cm, .slice a.w s.waits.length a.cw, .slice a.e s.ends.length a.ce, .slice a.o s.open_.length a.co, .slice a.n s.noes.length a.cn] from rfl] at C
            obtain ⟨zq, hzq⟩ : ∃ z, z = placeI (fun x : MsgV => decide (x.id = m.id)) s.ms := ⟨_, rfl⟩
            have HA := HALL.out k m hm
            rw [← hzq] at C HA
            obtain ⟨idv, hidv⟩ : ∃ x, x = m.id := ⟨_, rfl⟩
            obtain ⟨sq, hsq⟩ : ∃ x, x = m.seq := ⟨_, rfl⟩
            rw [← hidv] at C HA q0
            rw [← hsq] at HA q3
            have C1 := Lib.hid C
            have HAA := Lib.hid HA
            have Q03 := Lib.hid (show wr.cell? _ = _ ∧ wr.cell? _ = _ from ⟨q0, q3⟩)
            have EG := Lib.hid eg
            rw [eg] at e4
            clear C HA hat hm hzq hidv hsq q3 eg
            go_wp2_with fail
            clear c0 c1 c2 c3 c4 c5 c6 c7 c8 e0 e1 e2 e3 e4 e5 e6 e7 e8 q0
            refine C1.out.mono ?_
            rintro e x5 ⟨rfl, t5⟩
            have T5 := Lib.hid t5
            have TK5 := Lib.hid (HTK.out.trans t5 (by simp))
            clear t5 C1
            rcases HAA.out with ⟨h1, h2⟩ | ⟨h1, h2, h3, h4, h5⟩
            · have dz : decide (zq < 0) = false := decide_eq_false (by omega)
              go_wp2_with fail
              go_roundw
              case rel => exact ⟨k + 1, _, rfl, by go_num, by omega, by rw [show k + 1 - o = k - o by omega], TK5.out⟩
              case measure => simp [intOf]; omega
            · have dz : decide (zq < 0) = true := decide_eq_true h2
              obtain ⟨kk, hkk⟩ : ∃ kk, kk = k - o := ⟨_, rfl⟩
              have hkn : kk < nn := by have := HLU.out; rw [← HLN.out] at this; omega
              have hun := HNID.out
              have hmk := HMK.out (by omega)
              rw [← hkk] at h3 h4 h5 ⊢
              have hbk := HBK.out
              rw [hbk] at h3 h4 hmk
              obtain ⟨sn, hsn⟩ : ∃ x, x = s.nextId + (kk : Int) := ⟨_, rfl⟩
              obtain ⟨sm, hsm⟩ : ∃ x, x = s.nextId - 1 + (kk : Int) := ⟨_, rfl⟩
              obtain ⟨mk0, hm0⟩ : ∃ x, x = (br : Int) * 4294967296 + s.nextId := ⟨_, rfl⟩
              have hw1 : IntKind.i64.wrap (sm + 1) = sn := by rw [IntKind.wrap_i64]; omega
              have hw2 : IntKind.i64.wrap (s.nextSeq + idv) = s.nextSeq + idv := by rw [IntKind.wrap_i64]; omega
              have hw3 : IntKind.i64.wrap (s.nextSeq + idv - mk0) = sq := by rw [IntKind.wrap_i64]; omega
              rw [← hsn] at h3
              rw [← hm0] at hmk
              have K1 := Lib.hid (refMake_calls (br : Int) sn x5.drew)
              have K2 := Lib.hid (refMake_calls (br : Int) s.nextId x5.drew)
              rw [h3] at K1
              rw [hmk] at K2
              obtain ⟨e0, e1, e2, e3, e4, e5, e6, e7, e8⟩ := nine_of (T5.out.heap HHU.out (by simp))
              obtain ⟨c0, c1, c2, c3, c4, c5, c6, c7, c8⟩ := nine_of (T5.out.heap HHS.out (by simp))
              have q3 := T5.out.cell Q03.out.2 (by simp)
              rw [EG.out] at e4
              have HV : Hid (sn = s.nextId - 1 + ((k + 1 - o : Nat) : Int)) := Lib.hid (by omega)
              rw [← hsm]
              clear hkk hsn hsm hm0 h1 h2 h3 h4 h5 hmk hun hbk hkn
              have HS6 : Hid (∀ x, Turn [] x5 x → x.cell? ⟨p, 4, none⟩ = some (.slice (some ⟨gm, om, none⟩) len a8.cm) ∧ x.cell? ⟨b, 1, none⟩ = some (.int .i64 s.nextId) ∧ x.cell? ⟨b, 2, none⟩ = some (.int .i64 s.nextSeq) ∧ x.cell? ⟨gm, om + k * 6 + 3, none⟩ = some (.int .i64 sq)) := Lib.hid (fun x t => ⟨t.cell e4 (by simp), t.cell c1 (by simp), t.cell c2 (by simp), t.cell q3 (by simp)⟩)
              clear c0 c1 c2 c3 c4 c5 c6 c7 c8 e0 e1 e2 e3 e4 e5 e6 e7 e8 q3
              go_upto_region 16 with fail
              have T6 := Lib.hid (Turn.drew [] x5)
              refine Ph.start [] (fun x => x.cell? ⟨p, 4, none⟩ = some (.slice (some ⟨gm, om, none⟩) len a8.cm) ∧ x.cell? ⟨b, 1, none⟩ = some (.int .i64 s.nextId) ∧ x.cell? ⟨b, 2, none⟩ = some (.int .i64 s.nextSeq) ∧ x.cell? ⟨gm, om + k * 6 + 3, none⟩ = some (.int .i64 sq)) (by kernel_rfl) (HS6.out _ T6.out) ?_
              intro hS
              refine Ph.take (i := 0) (d := some 56) (v := ?_) rfl (by rfl) (by kernel_rfl) (by kernel_rfl) (by kernel_rfl) (by kernel_rfl) (fun _ _ _ h => h) (by rfl) hS ?_ ?_
              rotate_left
              · intro x hx
                go_simp
                try with_reducible rfl
              simp only [Act.put, List.setIfInBounds_toArray, List.set_cons_zero, List.set_cons_succ]
              refine Ph.take (i := 1) (d := some 57) (v := ?_) rfl (by rfl) (by kernel_rfl) (by kernel_rfl) (by kernel_rfl) (by kernel_rfl) (fun _ _ _ h => h) (by rfl) hS ?_ ?_
              rotate_left
              · intro x hx
                go_simp
                try with_reducible rfl
              simp only [Act.put, List.setIfInBounds_toArray, List.set_cons_zero, List.set_cons_succ]
              refine Ph.take (i := 2) (d := some 58) (v := ?_) rfl (by rfl) (by kernel_rfl) (by kernel_rfl) (by kernel_rfl) (by kernel_rfl) (fun _ _ _ h => h) (by rfl) hS ?_ ?_
              rotate_left
              · intro x hx
                go_simp
                try with_reducible rfl
              simp only [Act.put, List.setIfInBounds_toArray, List.set_cons_zero, List.set_cons_succ]
              refine Ph.take (i := 3) (d := some 59) (v := ?_) rfl (by rfl) (by kernel_rfl) (by kernel_rfl) (by kernel_rfl) (by kernel_rfl) (fun _ _ _ h => h) (by rfl) hS ?_ ?_
              rotate_left
              · intro x hx
                go_simp
                try with_reducible rfl
              simp only [Act.put, List.setIfInBounds_toArray, List.set_cons_zero, List.set_cons_succ]
              refine Ph.one (i := 4) (by kernel_rfl) rfl ?_
              intro K hK
              rw [if_pos (by rfl)]
              go_simp
              refine K1.out.mono ?_
              rintro e x6 ⟨rfl, rfl⟩
              refine hK _ _ (HS6.out _ T6.out) (fun hS1 => ?_)
              clear hK K
              refine Ph.take (i := 5) (d := some 61) (v := ?_) rfl (by rfl) (by kernel_rfl) (by kernel_rfl) (by kernel_rfl) (by kernel_rfl) (fun _ _ _ h => h) (by rfl) hS1 ?_ ?_
              rotate_left
              · intro x hx
                go_simp
                try with_reducible rfl
              simp only [Act.put, List.setIfInBounds_toArray, List.set_cons_zero, List.set_cons_succ]
              refine Ph.take (i := 6) (d := some 62) (v := ?_) rfl (by rfl) (by kernel_rfl) (by kernel_rfl) (by kernel_rfl) (by kernel_rfl) (fun _ _ _ h => h) (by rfl) hS1 ?_ ?_
              rotate_left
              · intro x hx
                go_simp
                try with_reducible rfl
              simp only [Act.put, List.setIfInBounds_toArray, List.set_cons_zero, List.set_cons_succ]
              refine Ph.take (i := 7) (d := some 63) (v := ?_) rfl (by rfl) (by kernel_rfl) (by kernel_rfl) (by kernel_rfl) (by kernel_rfl) (fun _ _ _ h => h) (by rfl) hS1 ?_ ?_
              rotate_left
              · intro x hx
                go_simp
                try with_reducible rfl
              simp only [Act.put, List.setIfInBounds_toArray, List.set_cons_zero, List.set_cons_succ]
              refine Ph.take (i := 8) (d := some 64) (v := ?_) rfl (by rfl) (by kernel_rfl) (by kernel_rfl) (by kernel_rfl) (by kernel_rfl) (fun _ _ _ h => h) (by rfl) hS1 ?_ ?_
              rotate_left
              · intro x hx
                obtain ⟨y0, y1, y2, y3⟩ := hx
                go_simp
                try with_reducible rfl
              simp only [Act.put, List.setIfInBounds_toArray, List.set_cons_zero, List.set_cons_succ]
              refine Ph.take (i := 9) (d := some 65) (v := ?_) rfl (by rfl) (by kernel_rfl) (by kernel_rfl) (by kernel_rfl) (by kernel_rfl) (fun _ _ _ h => h) (by rfl) hS1 ?_ ?_
              rotate_left
              · intro x hx
                go_simp
                try with_reducible rfl
              simp only [Act.put, List.setIfInBounds_toArray, List.set_cons_zero, List.set_cons_succ]
              refine Ph.take (i := 10) (d := some 66) (v := ?_) rfl (by rfl) (by kernel_rfl) (by kernel_rfl) (by kernel_rfl) (by kernel_rfl) (fun _ _ _ h => h) (by rfl) hS1 ?_ ?_
              rotate_left
              · intro x hx
                go_simp
                try with_reducible rfl
              simp only [Act.put, List.setIfInBounds_toArray, List.set_cons_zero, List.set_cons_succ]
              refine Ph.take (i := 11) (d := some 67) (v := ?_) rfl (by rfl) (by kernel_rfl) (by kernel_rfl) (by kernel_rfl) (by kernel_rfl) (fun _ _ _ h => h) (by rfl) hS1 ?_ ?_
              rotate_left
              · intro x hx
                go_simp
                try with_reducible rfl
              simp only [Act.put, List.setIfInBounds_toArray, List.set_cons_zero, List.set_cons_succ]
              refine Ph.take (i := 12) (d := some 68) (v := ?_) rfl (by rfl) (by kernel_rfl) (by kernel_rfl) (by kernel_rfl) (by kernel_rfl) (fun _ _ _ h => h) (by rfl) hS1 ?_ ?_
              rotate_left
              · intro x hx
                obtain ⟨y0, y1, y2, y3⟩ := hx
                go_simp
                try with_reducible rfl
              simp only [Act.put, List.setIfInBounds_toArray, List.set_cons_zero, List.set_cons_succ]
              refine Ph.take (i := 13) (d := some 69) (v := ?_) rfl (by rfl) (by kernel_rfl) (by kernel_rfl) (by kernel_rfl) (by kernel_rfl) (fun _ _ _ h => h) (by rfl) hS1 ?_ ?_
              rotate_left
              · intro x hx
                go_simp
                try with_reducible rfl
              simp only [Act.put, List.setIfInBounds_toArray, List.set_cons_zero, List.set_cons_succ]
              refine Ph.take (i := 14) (d := some 70) (v := ?_) rfl (by rfl) (by kernel_rfl) (by kernel_rfl) (by kernel_rfl) (by kernel_rfl) (fun _ _ _ h => h) (by rfl) hS1 ?_ ?_
              rotate_left
              · intro x hx
                obtain ⟨y0, y1, y2, y3⟩ := hx
                go_simp
                try with_reducible rfl
              simp only [Act.put, List.setIfInBounds_toArray, List.set_cons_zero, List.set_cons_succ]
              refine Ph.take (i := 15) (d := some 71) (v := ?_) rfl (by rfl) (by kernel_rfl) (by kernel_rfl) (by kernel_rfl) (by kernel_rfl) (fun _ _ _ h => h) (by rfl) hS1 ?_ ?_
              rotate_left
              · intro x hx
                go_simp
                try with_reducible rfl
              simp only [Act.put, List.setIfInBounds_toArray, List.set_cons_zero, List.set_cons_succ]
              refine Ph.take (i := 16) (d := some 72) (v := ?_) rfl (by rfl) (by kernel_rfl) (by kernel_rfl) (by kernel_rfl) (by kernel_rfl) (fun _ _ _ h => h) (by rfl) hS1 ?_ ?_
              rotate_left
              · intro x hx
                go_simp
                try with_reducible rfl
              simp only [Act.put, List.setIfInBounds_toArray, List.set_cons_zero, List.set_cons_succ]
              refine Ph.take (i := 17) (d := some 73) (v := ?_) rfl (by rfl) (by kernel_rfl) (by kernel_rfl) (by kernel_rfl) (by kernel_rfl) (fun _ _ _ h => h) (by rfl) hS1 ?_ ?_
              rotate_left
              · intro x hx
                go_simp
                try with_reducible rfl
              simp only [Act.put, List.setIfInBounds_toArray, List.set_cons_zero, List.set_cons_succ]
              refine Ph.take (i := 18) (d := some 74) (v := ?_) rfl (by rfl) (by kernel_rfl) (by kernel_rfl) (by kernel_rfl) (by kernel_rfl) (fun _ _ _ h => h) (by rfl) hS1 ?_ ?_
              rotate_left
              · intro x hx
                go_simp
                try with_reducible rfl
              simp only [Act.put, List.setIfInBounds_toArray, List.set_cons_zero, List.set_cons_succ]
              refine Ph.take (i := 19) (d := some 75) (v := ?_) rfl (by rfl) (by kernel_rfl) (by kernel_rfl) (by kernel_rfl) (by kernel_rfl) (fun _ _ _ h => h) (by rfl) hS1 ?_ ?_
              rotate_left
              · intro x hx
                obtain ⟨y0, y1, y2, y3⟩ := hx
                go_simp
                try with_reducible rfl
              simp only [Act.put, List.setIfInBounds_toArray, List.set_cons_zero, List.set_cons_succ]
              refine Ph.one (i := 20) (by kernel_rfl) rfl ?_
              intro K hK
              rw [if_pos (by rfl)]
              go_simp
              refine K2.out.mono ?_
              rintro e x6 ⟨rfl, rfl⟩
              refine hK _ _ (HS6.out _ T6.out) (fun hS2 => ?_)
              clear hK K
              refine Ph.take (i := 21) (d := some 77) (v := ?_) rfl (by rfl) (by kernel_rfl) (by kernel_rfl) (by kernel_rfl) (by kernel_rfl) (fun _ _ _ h => h) (by rfl) hS2 ?_ ?_
              rotate_left
              · intro x hx
                go_simp
                try with_reducible rfl
              simp only [Act.put, List.setIfInBounds_toArray, List.set_cons_zero, List.set_cons_succ]
              refine Ph.take (i := 22) (d := some 78) (v := ?_) rfl (by rfl) (by kernel_rfl) (by kernel_rfl) (by kernel_rfl) (by kernel_rfl) (fun _ _ _ h => h) (by rfl) hS2 ?_ ?_
              rotate_left
              · intro x hx
                go_simp
                try with_reducible rfl
              simp only [Act.put, List.setIfInBounds_toArray, List.set_cons_zero, List.set_cons_succ]
              refine Ph.one (i := 23) (by kernel_rfl) rfl ?_
              intro K hK
              rw [if_pos (by rfl)]
              go_simp
              refine hK _ _ (HS6.out _ T6.out) (fun _ => Ph.done (by kernel_rfl) ?_ _)
              clear hK K
              go_wp2_with fail
              go_roundw
              case rel => exact ⟨k + 1, _, rfl, by go_num, by omega, by rw [← HV.out], TK5.out.trans T6.out (by simp)⟩
              case measure => simp [intOf]; omega
          · have hkk : len = k := by omega
            subst hkk
            have hun := HNID.out
            have hlu := HLU.out
            rw [← HLN.out] at hlu
            have hsv : s.nextId - 1 + ((len - o : Nat) : Int) = u.nextId - 1 := by omega
            rw [hsv]
            have hw1 : IntKind.i64.wrap (u.nextId - 1) = u.nextId - 1 := by rw [IntKind.wrap_i64]; omega
            have hd1 : decide (u.nextId < s.nextId) = false := decide_eq_false (by omega)
            have hd2 : decide (u.nextId - 1 > u.nextId - 1) = false := decide_eq_false (by omega)
            have f0 : ∀ j, wr.frozen? ⟨b, j, none⟩ = false := fun j => unfrozen_of HHS.out
            have sx := bx_store BXK.out (RU.out.still HTK.out) HMU.out.1
            have SX : Hid (Bx (((((((((wr.setCell ⟨b, 0, none⟩ (.int .i64 u.broker)).setCell ⟨b, 1, none⟩ (.int .i64 u.nextId)).setCell ⟨b, 2, none⟩ (.int .i64 u.nextSeq)).setCell ⟨b, 3, none⟩ (.int .i64 u.tx)).setCell ⟨b, 4, none⟩ (.slice a8.m len a8.cm)).setCell ⟨b, 5, none⟩ (.slice a8.w u.waits.length a8.cw)).setCell ⟨b, 6, none⟩ (.slice a8.e u.ends.length a8.ce)).setCell ⟨b, 7, none⟩ (.slice a8.o u.open_.length a8.co)).setCell ⟨b, 8, none⟩ (.slice a8.n u.noes.length a8.cn)) b a8 u ∧ Turn [b] wr (((((((((wr.setCell ⟨b, 0, none⟩ (.int .i64 u.broker)).setCell ⟨b, 1, none⟩ (.int .i64 u.nextId)).setCell ⟨b, 2, none⟩ (.int .i64 u.nextSeq)).setCell ⟨b, 3, none⟩ (.int .i64 u.tx)).setCell ⟨b, 4, none⟩ (.slice a8.m len a8.cm)).setCell ⟨b, 5, none⟩ (.slice a8.w u.waits.length a8.cw)).setCell ⟨b, 6, none⟩ (.slice a8.e u.ends.length a8.ce)).setCell ⟨b, 7, none⟩ (.slice a8.o u.open_.length a8.co)).setCell ⟨b, 8, none⟩ (.slice a8.n u.noes.length a8.cn))) := Lib.hid (by rw [HLN.out]; exact sx)
            have TF := Lib.hid ((T2.out.trans HTK.out (by simp)).trans SX.out.2 (fun i hi => .inr (by have := HWB.out; simp at hi; omega)))
            clear sx hsv hlu hun hkl hk
            go_wp2_with fail
            go_roundw
            case rel => exact ⟨i + 1, a8, u, _, _, _, rfl, rfl, rfl, rfl, by go_num, by omega, by omega, HMU.out.1, HMU.out.2, by rw [HBU.out, HBK.out], SX.out.1, TF.out⟩
            case measure => simp [intOf]; omega
    · by_cases q0 : i < l.length
      · have q2 : ¬ i < 40 := by omega
        clear q1
        go_wp2_with fail
        go_ret
        exact ⟨rfl, HT.out.belowAll⟩
      · clear q1
        go_wp2_with fail
        go_ret
        exact ⟨rfl, HT.out.belowAll⟩

end Go.Proofs.YtjhlfjgfohoflaaGreat

/-
  The law 'postillionlaw10.StoreIds' answers true at every input, and each argument reads behind the call as it read before: for every input, no condition; the frame round the walk 'storeIds_walk'.
-/
namespace Go.Proofs.YtjhlfjgfohoflaaGreat.storeIds
open Go.ChangeShapes Go.WideShapes Go.ChangeAt Go.RowKit
open Go.ChangeMaps (open_string shut_string)
set_option linter.unusedVariables false

theorem own : ownKnob Tryz.prog.godebug = none := by kernel_rfl
theorem laidOut : laidOutB Tryz.prog = true := closed.p_laidOutB

set_option maxRecDepth 100000 in
theorem lifted (os : Os) (started : os.Started) (H : Type) (enc : TypeId × Value → H) :
    ReturnsInHanded {} Tryz.checked os 10 .any (Rows.storeIdsSpec.pre6 enc Tryz.prog Tryz.f10 Rows.storeIdsRow.domain false) (Rows.storeIdsSpec.post enc Tryz.prog Tryz.f10 false true false false) := by
  refine returnsInHanded_of_change (C := Tryz.checked) own started (by kernel_rfl) Tryz.func10
    (ChangeSpec.witness6 (enc := enc) (C := Tryz.checked) false ⟨#[], #[.int .i64 0, .slice none 0 0], []⟩ 8 (by kernel_rfl) (by kernel_rfl) (by kernel_rfl) (by kernel_rfl)) ?_
  intro W base args ds gs before hval0 hW hcnd _
  have hval : ∀ (j : Nat) t v, Tryz.f10.params[j]? = some t → args[j]? = some v → Value.okWide Tryz.prog W .any base t v := hval0
  have hW' := hW
  obtain ⟨p, q, hA0, hV, rfl, hfz, hnd⟩ := hW
  have hA : DataW.TrodAll enc Tryz.prog W 0 (fun _ => true) true Tryz.f10.params.toList args.toList ds p := hA0
  rw [Tryz.params10] at hA hval
  obtain ⟨v0, vs0, d0, ds0, p0, q0, hargs, rfl, rfl, h0, r0⟩ := trodAll_cons hA
  obtain ⟨v1, vs1, d1, ds1, p1, q1, rfl, rfl, rfl, h1, r1⟩ := trodAll_cons r0
  obtain ⟨rfl, rfl, rfl⟩ := trodAll_nil r1
  obtain rfl : args = #[v0, v1] := by cases args; simp_all
  obtain ⟨rfl, rfl⟩ := trodVars_none hV
  obtain ⟨a0, rfl, rfl, rfl, w0⟩ := open_int Tryz.underlying3 (hval 0 3 v0 rfl rfl) h0
  obtain ⟨a1, len1, cap1, rfl⟩ := okWide_slice Tryz.underlying33 (hval 1 33 v1 rfl rfl)
  have k1 := h1
  have lt1 : ∀ x ∈ p1, x.block < W.heap.size := by obtain ⟨m, hm⟩ := k1; exact DataW.trod_lt m _ _ _ hm
  obtain ⟨l1, rfl, w1⟩ := open_records h1
  clear hA0 hval0
  refine (storeIds_walk (w := W) a0 w0 a1 cap1 l1 w1).mono fun e W' ⟨he, bel⟩ => ?_
  subst he
  exact ⟨_, rfl, _, _, _, [], _, [], hW', trodAll_mk1 (shut_bool Tryz.underlying4 _), (trodAll_cons_mk (shut_int Tryz.underlying3 w0) (trodAll_cons_mk (Below.trod laidOut (by kernel_rfl) (of_decide_eq_true (by kernel_rfl)) k1 bel lt1) trodAll_mk0)), rfl, bel.frame _, fun h => by cases h⟩

theorem closed0 : (Rows.storeIdsRow.wf (OpenSpec.ofChange Rows.storeIdsSpec) : Bool) = true := by kernel_rfl

theorem closed3 : (Tryz.f10.params.all (Tryz.prog.readableRec ·) : Bool) = true := by kernel_rfl

theorem closed4 : (namedTie Tryz.prog Rows.storeIdsRow.named Rows.storeIdsSpec.vars : Bool) = true := by kernel_rfl

theorem closed5 : ((Rows.storeIdsRow.stops == []) : Bool) = true := by kernel_rfl

theorem closed7 : ((Rows.storeIdsRow.knobs == []) : Bool) = true := by kernel_rfl

theorem closed9 : ((Rows.storeIdsRow.inPlace == Tryz.prog.inPlace 10) : Bool) = true := by kernel_rfl

theorem closed10 : ((Rows.storeIdsRow.unfollowed == Tryz.prog.unfollowed 10) : Bool) = true := by kernel_rfl

theorem closed11 : ((Rows.storeIdsRow.recurses == Tryz.prog.recurses 10) : Bool) = true := by kernel_rfl

theorem closed12 : ((Rows.storeIdsRow.named == Tryz.prog.varsNamed 10) : Bool) = true := by kernel_rfl

theorem closed13 : ((Rows.storeIdsRow.maps == (Tryz.f10.params.toList ++ Rows.storeIdsSpec.plain.varTypes Tryz.prog).any (Tryz.prog.mapsRec ·)) : Bool) = true := by kernel_rfl

theorem closed14 : ((Rows.storeIdsRow.ifaces == (Tryz.f10.params.toList ++ Rows.storeIdsSpec.plain.varTypes Tryz.prog).any (Tryz.prog.ifacesRec ·)) : Bool) = true := by kernel_rfl

theorem closed15 : ((Rows.storeIdsRow.mapsOut == Tryz.prog.mapsAmong Tryz.f10.resultTypes.toList) : Bool) = true := by kernel_rfl

theorem closed16 : ((Rows.storeIdsRow.loops == (Tryz.f10.params.toList ++ Rows.storeIdsSpec.plain.varTypes Tryz.prog).any (Tryz.prog.loopsFrom ·)) : Bool) = true := by kernel_rfl

theorem closed17 : ((Rows.storeIdsRow.wideKeys == (Tryz.f10.params.toList ++ Rows.storeIdsSpec.plain.varTypes Tryz.prog ++ Tryz.f10.resultTypes.toList).any (Tryz.prog.wideKeysFrom ·)) : Bool) = true := by kernel_rfl

theorem closed18 : (Rows.storeIdsSpec.vars.all (Tryz.prog.varReadable ·) : Bool) = true := by kernel_rfl

theorem closed19 : (Tryz.f10.resultTypes.all (fun t => Tryz.prog.readableRec t && decide (t < Tryz.prog.types.size)) : Bool) = true := by kernel_rfl

theorem closed20 : ((Rows.storeIdsRow.ifacesOut == Tryz.f10.resultTypes.toList.any (Tryz.prog.ifacesRec ·)) : Bool) = true := by kernel_rfl

theorem closed21 : ((Rows.storeIdsRow.loopsOut == Tryz.f10.resultTypes.toList.any (Tryz.prog.loopsFrom ·)) : Bool) = true := by kernel_rfl

theorem closed22 : ((Rows.storeIdsRow.plainKeys == Tryz.prog.plainKeys) : Bool) = true := by show (_ == _) = true; rw [closed.plainKeys_is]; kernel_rfl

theorem closed23 : (Rows.storeIdsRow.shortTexts.isNone : Bool) = true := by kernel_rfl

theorem closed26 : ((Rows.storeIdsRow.lifted == Tryz.prog.liftsFinal) : Bool) = true := by show (_ == _) = true; rw [closed.lifted_is]; kernel_rfl

theorem closed27 : ((Tryz.prog.make == some Rows.storeIdsRow.make) : Bool) = true := by show (_ == _) = true; rw [closed.make_is]; kernel_rfl

theorem closed28 : ((Rows.storeIdsRow.kinds == (if Rows.storeIdsRow.domain.isEmpty then [] else Tryz.f10.params.toList.map fun t => match Tryz.prog.underlying t with | some (.int k) => some k | _ => none)) : Bool) = true := by kernel_rfl

theorem closed29 : ((Rows.storeIdsRow.pinned == Rows.storeIdsRow.pinnedBy) : Bool) = true := by kernel_rfl

theorem closed30 : ((Rows.storeIdsRow.veiled == (Tryz.f10.params.toList ++ Rows.storeIdsSpec.plain.varTypes Tryz.prog ++ Tryz.f10.resultTypes.toList).any (Tryz.prog.veiledRec ·)) : Bool) = true := by kernel_rfl

theorem closed31 : (Rows.storeIdsRow.veiledFits Tryz.prog Tryz.f10.params.toList (Tryz.f10.params.toList ++ Rows.storeIdsSpec.plain.varTypes Tryz.prog ++ Tryz.f10.resultTypes.toList) : Bool) = true := by kernel_rfl

set_option maxRecDepth 100000 in
theorem closedAll : joinedFacts Tryz.prog 10 Tryz.f10 Rows.storeIdsSpec Rows.storeIdsRow = true :=
  joinMk.joined_mk closed0 closed.p_laidOutB closed.p_mapsRowed closed3 closed4 closed5 closed.p_stops closed7 closed.p_stopKnobs closed9 closed10 closed11 closed12 closed13 closed14 closed15 closed16 closed17 closed18 closed19 closed20 closed21 closed22 closed23 closed.p_stopsHeard closed.p_mayEnter closed26 closed27 closed28 closed29 closed30 closed31

theorem over : Rows.storeIdsRow.holds Tryz.pinned (OpenSpec.ofChange Rows.storeIdsSpec) :=
  OpenClaim.holds_of_wide 10 Tryz.f10 rfl rfl rfl rfl rfl rfl rfl ⟨rfl, rfl, rfl, rfl, rfl⟩ rfl rfl rfl rfl rfl (by kernel_rfl) Tryz.func10 closedAll
    (of_decide_eq_true (by kernel_rfl)) (by unfold Func.isWrapper; first | (rw [if_pos (by decide +kernel)]; kernel_rfl) | (rw [if_neg (by decide +kernel)]; exact ⟨rfl, rfl⟩))
    (fun os started H enc _ => lifted os started H enc)

/-- The statement. -/
theorem proved : Rows.StoreIdsSaid := over
end Go.Proofs.YtjhlfjgfohoflaaGreat.storeIds
