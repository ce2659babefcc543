/-
  Of the texts Nbs Rq0 Ph2 StoreNumbersWalk StoreNumbers, in build order, each as it was built alone.
-/
import Derived.Test.YtjhlfjgfohoflaaGreatPkAX
import Derived.Test.YtjhlfjgfohoflaaGreatPkAO
import Derived.Test.YtjhlfjgfohoflaaGreatPkBD
import Derived.Test.YtjhlfjgfohoflaaGreatPkBF
import Derived.Test.YtjhlfjgfohoflaaGreatPkAW
import Derived.Test.YtjhlfjgfohoflaaGreatPkAM
import Derived.Test.YtjhlfjgfohoflaaGreatRows
import Derived.ProofKit
import Derived.OpenShut
import Derived.ShutString
import Derived.ChangeOld
import Derived.Below

/-
  The states of StoreNumbers, as values.
-/
namespace Go.Proofs.YtjhlfjgfohoflaaGreat
open Go.RowKit Go.Proofs.YtjhlfjgfohoflaaGreat.V

def bNb : ByteArray := ⟨#[98]⟩
def sNb (q : Bool) (l : Nat) : StV := if q = true then ⟨3, 1, 1099511627776 - (l : Int), 0, [], [], [], [], []⟩ else ⟨3, 4294967296 - (l : Int), 1, 0, [], [], [], [], []⟩
def rNb (n : Nat) : RecV := ⟨4, 4294967297, 0, false, [], List.replicate n (qT, bNb)⟩
def dNb : RecV := ⟨5, 4294967297, 0, true, [], []⟩

theorem newNb : newS 3 = ⟨3, 1, 1, 0, [], [], [], [], []⟩ := (eqStB_iff _ _).1 (by decide +kernel)
theorem mNb' : ∀ q : Bool, ∀ l : Fin 13, mayB (sNb q l.1) = true := by decide +kernel
theorem mNbP' : ∀ q : Bool, ∀ l : Fin 13, ∀ n : Fin 11, mayB (applyS (sNb q l.1) (rNb n.1)) = true := by decide +kernel
theorem canNb' : ∀ q : Bool, ∀ l : Fin 13, ∀ n : Fin 11, canE (sNb q l.1) (rNb n.1) = if n.1 ≤ l.1 then 0 else 5 := by decide +kernel
theorem endNb' : ∀ q : Bool, ∀ l : Fin 13, ∀ n : Fin 11, mayB (applyS (applyS (sNb q l.1) (rNb n.1)) dNb) = true ∧ (if n.1 ≤ l.1 then (applyS (applyS (sNb q l.1) (rNb n.1)) dNb).ms.length = n.1 ∧ (applyS (applyS (sNb q l.1) (rNb n.1)) dNb).nextId = (sNb q l.1).nextId + (n.1 : Int) ∧ (applyS (applyS (sNb q l.1) (rNb n.1)) dNb).nextSeq = (sNb q l.1).nextSeq + (n.1 : Int) else eqStB (applyS (applyS (sNb q l.1) (rNb n.1)) dNb) (sNb q l.1) = true) := by decide +kernel

end Go.Proofs.YtjhlfjgfohoflaaGreat

/-
  The reference's Eq of a state that holds nothing.
-/
namespace Go.Proofs.YtjhlfjgfohoflaaGreat
open Go.RowKit Go.Proofs.YtjhlfjgfohoflaaGreat.V

set_option maxRecDepth 100000 in
theorem refEqPends_nil (x y : Option Addr) (c d : Nat) (w : World) : Calls Tryz.prog 67 #[.slice x 0 c, .slice y 0 d] w fun e w' => e = .returned (.bool true) ∧ w = w' := by
  go_enter Tryz.func67, Tryz.ntmps67
  go_wp2_with fail
  go_loop [5] (fun i => i = .int .i64 0) (fun _ => 0)
  case atStart => rfl
  case round =>
    subst hrel
    go_wp2
    go_ret
    exact ⟨rfl, rfl⟩

set_option maxHeartbeats 4000000 in
set_option maxRecDepth 100000 in
theorem refEq_nil (s : StV) (a b : Ads) (h : s.ms = [] ∧ s.waits = [] ∧ s.ends = [] ∧ s.open_ = [] ∧ s.noes = []) (w : World) : Calls Tryz.prog 21 #[.agg (s.cells a), .agg (s.cells b)] w fun e w' => e = .returned (.bool true) ∧ Turn [] w w' := by
  obtain ⟨s0, s1, s2, s3, ms, ws, es, os, nn⟩ := s
  obtain ⟨h1, h2, h3, h4, h5⟩ := h
  dsimp only at h1 h2 h3 h4 h5
  subst h1 h2 h3 h4 h5
  obtain ⟨am, cm, aw, cw, ae, ce, ao, co, an, cn⟩ := a
  obtain ⟨bm, dm, bw, dw, be, de, bo, do_, bn, dn⟩ := b
  have C1 := Lib.hid (fun wx => refEqPends_nil ao bo co do_ wx)
  have C2 := Lib.hid (fun wx => refEqPends_nil an bn cn dn wx)
  unfold StV.cells
  dsimp only [List.length_nil]
  have T0 := Lib.hid ((Turn.alloc [] w (.cells #[.int .i64 s0, .int .i64 s1, .int .i64 s2, .int .i64 s3, .slice am 0 cm, .slice aw 0 cw, .slice ae 0 ce, .slice ao 0 co, .slice an 0 cn] 27)).trans (Turn.alloc [] _ (.cells #[.int .i64 s0, .int .i64 s1, .int .i64 s2, .int .i64 s3, .slice bm 0 dm, .slice bw 0 dw, .slice be 0 de, .slice bo 0 do_, .slice bn 0 dn] 27)) (by simp))
  go_enter Tryz.func21, Tryz.ntmps21
  go_wp2_with fail
  refine (C1.out _).mono ?_
  rintro e x1 ⟨rfl, rfl⟩
  go_wp2_with fail
  refine (C2.out _).mono ?_
  rintro e x2 ⟨rfl, rfl⟩
  go_wp2_with fail
  go_loop [5] (fun i => i = .int .i64 0) (fun _ => 0)
  case atStart => rfl
  case round =>
    subst hrel
    go_wp2_with fail
    go_loop [6] (fun i => i = .int .i64 0) (fun _ => 0)
    case atStart => rfl
    case round =>
      subst hrel
      go_wp2_with fail
      go_loop [7] (fun i => i = .int .i64 0) (fun _ => 0)
      case atStart => rfl
      case round =>
        subst hrel
        go_wp2_with fail
        go_ret
        exact ⟨rfl, T0.out⟩

end Go.Proofs.YtjhlfjgfohoflaaGreat

/-
  A region that draws its order, where two operations may come up next.
-/
namespace Go.Proofs.YtjhlfjgfohoflaaGreat
open Go

section
variable {P : Program} {md : Region.Mode} {ops : Array Oper} {Q : Exit → Act → World → Prop} {S : World → Prop} {late : List Nat}

/-- One of the two that come up. -/
theorem Ph.two {i j k : Nat} {oi oj : Oper} {L : Array Bool} {a : Act} {w : World} (hr : Region.ready md ops L = [i, j]) (hi : ops[i]? = some oi) (hj : ops[j]? = some oj)
    (h1 : ∀ K : Act → World → Prop, (∀ b x, S x → (S x → Ph P md ops Q S late k (L.setIfInBounds i true) b x) → K b x) → if Region.wanted oi (yielded ops a.tmps) = true then Oper.wp P oi a w K Q else K (a.put oi.dst undef) w)
    (h2 : ∀ K : Act → World → Prop, (∀ b x, S x → (S x → Ph P md ops Q S late k (L.setIfInBounds j true) b x) → K b x) → if Region.wanted oj (yielded ops a.tmps) = true then Oper.wp P oj a w K Q else K (a.put oj.dst undef) w) :
    Ph P md ops Q S late (k + 1) L a w := by
  refine ⟨fun h0 => (by rw [hr] at h0; cases h0), fun m hm => ?_⟩
  rw [hr] at hm
  rcases List.mem_cons.1 hm with e | hm
  · subst e
    exact wpOp_step hi (fun K hK => h1 K (fun b x hS hP => hK b x ⟨.inr hS, hP hS⟩))
  · have e : m = j := by simpa using hm
    subst e
    exact wpOp_step hj (fun K hK => h2 K (fun b x hS hP => hK b x ⟨.inr hS, hP hS⟩))

/-- An operation that isn't wanted is taken first. -/
theorem Ph.skip {i k : Nat} {oi : Oper} {d : Option Tmp} {L : Array Bool} {a : Act} {w : World} (hi : ops[i]? = some oi) (hd : oi.dst = d) (hs : Region.noSelect ops = true) (hw : (late.all fun j => Region.waitsFor md ops j i) = true) (hf : Region.free md ops L i = true)
    (hr : (Region.ready md ops L).contains i = true) (hQ : ∀ c a w, Q (.panic c) (a.put d undef) w → Q (.panic c) a w) (hwt : Region.wanted oi (yielded ops a.tmps) = false) (hS : S w)
    (h : Ph P md ops Q S late k (L.setIfInBounds i true) (a.put d undef) w) : Ph P md ops Q S late (k + 1) L a w := by
  subst hd
  exact Ph.early hi hs hw hQ k L a w (Region.free_spec hi hf) (by simpa using hr) (.inr ⟨hwt, rfl⟩) hS h

end

end Go.Proofs.YtjhlfjgfohoflaaGreat

/-
  The walk of the law StoreNumbers.
-/
namespace Go.Proofs.YtjhlfjgfohoflaaGreat
open Go.RowKit Go.Proofs.YtjhlfjgfohoflaaGreat.V

def s3Nb : StV := ⟨3, 1, 1, 0, [], [], [], [], []⟩
theorem grown_rec {x w1 : World} {rb : Nat} {u : Value} {o : Obj} (hx : x.heap[rb]? = some o) (g1 : x.grownBy w1 u.ownBlock) (h : ∀ g, u.ownBlock = some g → rb < g) : w1.heap[rb]? = some o :=
  (Turn.grown (l := u.ownBlock.toList) g1 (fun k hk => .inl (by simp [hk]))).heap hx (by
    intro hm
    have := h rb (by simpa using hm)
    omega)
theorem rep_next (k : Nat) : List.replicate (k + 1) (qT, bNb) = List.replicate k (qT, bNb) ++ [(qT, bNb)] := by simp [List.replicate_succ']
theorem rep_sz (k : Nat) : ∀ i, i < (List.replicate k (qT, bNb)).length → ((List.replicate k (qT, bNb)).getD i putNone).1.size ≤ 9223372036854775807 ∧ ((List.replicate k (qT, bNb)).getD i putNone).2.size ≤ 9223372036854775807 := fun i hi => by
  have : (List.replicate k (qT, bNb)).getD i putNone = (qT, bNb) := by
    have h : i < k := by simpa using hi
    simp [List.getD, h]
  rw [this]
  exact ⟨by show 1 ≤ _; omega, by show 1 ≤ _; omega⟩
theorem nb_is (q : Bool) (l : Nat) (w : World) : StIs w noAds (sNb q l) := by
  cases q <;> exact ⟨Tl.nil _ _ _, ⟨[], rfl, Tl.nil _ _ _, by simp⟩, Tl.nil _ _ _, ⟨[], rfl, Tl.nil _ _ _, by simp⟩, ⟨[], rfl, Tl.nil _ _ _, by simp⟩⟩
theorem nb_nil (q : Bool) (l : Nat) : (sNb q l).ms = [] ∧ (sNb q l).waits = [] ∧ (sNb q l).ends = [] ∧ (sNb q l).open_ = [] ∧ (sNb q l).noes = [] := by
  cases q <;> exact ⟨rfl, rfl, rfl, rfl, rfl⟩

set_option maxHeartbeats 16000000 in
set_option maxRecDepth 100000 in
theorem storeNumbers_walk {w : World} (l : Int) (_ : (Lit.int .i64 l).wf = true) (n : Int) (_ : (Lit.int .i64 n).wf = true) (q : Bool) : Calls Tryz.prog 6 #[.int .i64 l, .int .i64 n, .bool q] w fun e w' => e = .returned (.bool true) ∧ Below w.heap.size w w' := by
  have CB := Lib.hid (begun10_calls w)
  go_enter Tryz.func6, Tryz.ntmps6
  by_cases h0 : l < 0
  · have d0 := decide_eq_true h0
    go_wp2_with fail
    refine CB.out.mono ?_
    rintro e x1 ⟨rfl, t1⟩
    have T1 := Lib.hid t1
    clear t1 CB
    go_wp2_with fail
    go_ret
    exact ⟨rfl, T1.out.belowAll⟩
  have d0 := decide_eq_false h0
  by_cases h1 : l > 12
  · have d1 := decide_eq_true h1
    go_wp2_with fail
    refine CB.out.mono ?_
    rintro e x1 ⟨rfl, t1⟩
    have T1 := Lib.hid t1
    clear t1 CB
    go_wp2_with fail
    go_ret
    exact ⟨rfl, T1.out.belowAll⟩
  have d1 := decide_eq_false h1
  by_cases h2 : n < 0
  · have d2 := decide_eq_true h2
    go_wp2_with fail
    refine CB.out.mono ?_
    rintro e x1 ⟨rfl, t1⟩
    have T1 := Lib.hid t1
    clear t1 CB
    go_wp2_with fail
    go_ret
    exact ⟨rfl, T1.out.belowAll⟩
  have d2 := decide_eq_false h2
  by_cases h3 : n > 10
  · have d3 := decide_eq_true h3
    go_wp2_with fail
    refine CB.out.mono ?_
    rintro e x1 ⟨rfl, t1⟩
    have T1 := Lib.hid t1
    clear t1 CB
    go_wp2_with fail
    go_ret
    exact ⟨rfl, T1.out.belowAll⟩
  have d3 := decide_eq_false h3
  obtain ⟨l, rfl⟩ : ∃ k : Nat, l = (k : Int) := ⟨l.toNat, by omega⟩
  obtain ⟨n, rfl⟩ : ∃ k : Nat, n = (k : Int) := ⟨n.toNat, by omega⟩
  have hl : l ≤ 12 := by omega
  have hn : n ≤ 10 := by omega
  clear h0 h1 h2 h3
  obtain ⟨s0, hs0⟩ : ∃ s, s = sNb q l := ⟨_, rfl⟩
  have HS0 := Lib.hid hs0
  have HIS : Hid (∀ wx, StIs wx noAds s0) := Lib.hid (fun wx => by rw [hs0]; exact nb_is q l wx)
  have HM0 : Hid (MayP s0) := Lib.hid (by rw [hs0]; exact mayB_iff.1 (mNb' q ⟨l, by omega⟩))
  clear hs0
  go_wp2_with fail
  refine CB.out.mono ?_
  rintro e x1 ⟨rfl, t1⟩
  have CN := Lib.hid (stNew_calls 3 x1)
  rw [newNb] at CN
  have T1 := Lib.hid t1
  clear t1 CB
  go_wp2_with fail
  refine CN.out.mono ?_
  rintro e xN ⟨rfl, -, tN⟩
  rw [show (⟨3, 1, 1, 0, [], [], [], [], []⟩ : StV).cells noAds = #[.int .i64 3, .int .i64 1, .int .i64 1, .int .i64 0, .slice none 0 0, .slice none 0 0, .slice none 0 0, .slice none 0 0, .slice none 0 0] from rfl]
  go_upto_region 7 with fail
  have hb0 := heap_alloc_new xN (.cells #[.int .i64 3, .int .i64 1, .int .i64 1, .int .i64 0, .slice none 0 0, .slice none 0 0, .slice none 0 0, .slice none 0 0, .slice none 0 0] 27)
  have T0 := Lib.hid ((T1.out.trans tN (by simp)).trans (Turn.alloc [] xN (.cells #[.int .i64 3, .int .i64 1, .int .i64 1, .int .i64 0, .slice none 0 0, .slice none 0 0, .slice none 0 0, .slice none 0 0, .slice none 0 0] 27)) (by simp))
  have HWB : Hid (w.heap.size ≤ xN.heap.size) := Lib.hid (T1.out.trans tN (by simp)).size
  generalize xN.alloc (.cells #[.int .i64 3, .int .i64 1, .int .i64 1, .int .i64 0, .slice none 0 0, .slice none 0 0, .slice none 0 0, .slice none 0 0, .slice none 0 0] 27) = y0 at *
  obtain ⟨b, hb⟩ : ∃ b, b = xN.heap.size := ⟨_, rfl⟩
  rw [← hb] at hb0 HWB ⊢
  clear hb tN T1 CN d0 d1 d2 d3
  have hh := hb0
  obtain ⟨c0, c1, c2, c3, c4, c5, c6, c7, c8⟩ := nine_of hh
  have f0 : ∀ j, y0.frozen? ⟨b, j, none⟩ = false := fun j => unfrozen_of hh
  have hw1 : IntKind.i64.wrap (1099511627776 - (l : Int)) = 1099511627776 - (l : Int) := by rw [IntKind.wrap_i64]; omega
  have hw2 : IntKind.i64.wrap (4294967296 - (l : Int)) = 4294967296 - (l : Int) := by rw [IntKind.wrap_i64]; omega
  clear hh
  cases q with
  | true =>
    go_upto_region 10 with fail
    have HB1 : Hid ((y0.setCell ⟨b, 2, none⟩ (.int .i64 (1099511627776 - (l : Int)))).heap[b]? = some (.cells (s0.cells noAds) 27)) := Lib.hid (by
      have h1 := block_set (i := 2) hb0 (.int .i64 (1099511627776 - (l : Int)))
      simp only [List.setIfInBounds_toArray, List.set_cons_zero, List.set_cons_succ] at h1
      rw [HS0.out]
      exact h1)
    have TY := Lib.hid (T0.out.trans (Turn.setCell (l := [b]) (b := b) (i := 2) y0 (by simp) (.int .i64 (1099511627776 - (l : Int)))) (fun j hj => .inr (by have := HWB.out; simp at hj; omega)))
    generalize y0.setCell ⟨b, 2, none⟩ (.int .i64 (1099511627776 - (l : Int))) = y at *
    clear c0 c1 c2 c3 c4 c5 c6 c7 c8 f0 hw1 hw2 hb0 T0
    go_upto_region 12 with fail
    have hr0 := heap_alloc_new y (.cells #[.int .i64 4, .int .i64 4294967297, .int .i64 0, .bool false, .slice none 0 0, .slice none 0 0] 37)
    have ta := Turn.alloc [] y (.cells #[.int .i64 4, .int .i64 4294967297, .int .i64 0, .bool false, .slice none 0 0, .slice none 0 0] 37)
    have HB2 := Lib.hid (ta.heap HB1.out (by simp))
    have TZ := Lib.hid (TY.out.trans ta (by simp))
    have HBR : Hid (b < y.heap.size) := Lib.hid (lt_of_heap HB1.out)
    have HZS : Hid ((y.alloc (.cells #[.int .i64 4, .int .i64 4294967297, .int .i64 0, .bool false, .slice none 0 0, .slice none 0 0] 37)).heap.size = y.heap.size + 1) := Lib.hid (by simp)
    generalize y.alloc (.cells #[.int .i64 4, .int .i64 4294967297, .int .i64 0, .bool false, .slice none 0 0, .slice none 0 0] 37) = z at *
    obtain ⟨rb, hrb⟩ : ∃ r, r = y.heap.size := ⟨_, rfl⟩
    rw [← hrb] at hr0 HBR HZS ⊢
    have HR0 := Lib.hid hr0
    clear hrb hr0 ta HB1 TY
    go_loopw [10] (fun vi wx => ∃ (k : Nat) (ap : Option Addr) (cp : Nat), k ≤ n ∧ vi = .int .i64 (k : Int) ∧ wx.heap[rb]? = some (.cells #[.int .i64 4, .int .i64 4294967297, .int .i64 0, .bool false, .slice none 0 0, .slice ap (List.replicate k (qT, bNb)).length cp] 37) ∧ wx.ownsRow 0 45 2 (.slice ap (List.replicate k (qT, bNb)).length cp) (List.replicate k (qT, bNb)).length (pcells (List.replicate k (qT, bNb))) ∧ (∀ g, (Value.slice ap (List.replicate k (qT, bNb)).length cp).ownBlock = some g → rb < g) ∧ Turn [rb] z wx) (fun vi _ => n - (intOf vi).toNat)
    case atStart => exact ⟨0, none, 0, by omega, rfl, HR0.out, World.ownsRow_nil _ _ _ _, (by intro g hg; cases hg), Turn.refl _ _⟩
    case round =>
      obtain ⟨k, ap, cp, hk, rfl, hrec, hrow, hlow, ht⟩ := hrel
      have HT := Lib.hid ht
      have HR := Lib.hid hrow
      have HX := Lib.hid hrec
      have HLO := Lib.hid hlow
      clear hrow hlow ht hrec HR0
      by_cases hkn : k < n
      · have T2' := Lib.hid (Turn.alloc [] wr (.cells #[.string ⟨#[113]⟩, .string ⟨#[98]⟩] 45))
        have R2 := Lib.hid (ownsRow_turn HR.out T2'.out (by simp))
        have Q2 := Lib.hid (two_of10 (heap_alloc_new wr (.cells #[.string ⟨#[113]⟩, .string ⟨#[98]⟩] 45)))
        have HLEN : Hid ((List.replicate k (qT, bNb)).length ≤ 1000000) := Lib.hid (by rw [List.length_replicate]; omega)
        have HN2 := Lib.hid (rep_next k)
        have HRS : Hid (rb < wr.heap.size) := Lib.hid (lt_of_heap HX.out)
        obtain ⟨L, hL⟩ : ∃ L, L = List.replicate k (qT, bNb) := ⟨_, rfl⟩
        rw [← hL] at HX HLO R2 HLEN HN2 HR
        obtain ⟨m0, m1, m2, m3, m4, m5⟩ := six_of10 HX.out
        clear hL m0 m1 m2 m3 m4
        go_wp2_with (at_builtin; refine append_put rfl (.tmp 45) (.tmp 47) rfl (.slice ap L.length cp) L rfl R2.out wr.heap.size (⟨#[113]⟩, ⟨#[98]⟩) rfl Q2.out.1 Q2.out.2 HLEN.out ?_; intro v1 w1 r1 g1 o1; obtain ⟨ap1, cp1, hv1⟩ := slice_form r1; subst hv1; have hr1 := grown_rec (T2'.out.heap HX.out (by simp)) g1 HLO.out; obtain ⟨m0, m1, m2, m3, m4, m5'⟩ := six_of10 hr1; have fr : ∀ j, w1.frozen? ⟨rb, j, none⟩ = false := fun j => unfrozen_of hr1; have R1 := Lib.hid r1; have G1 := Lib.hid g1; have O1 := Lib.hid o1; have HR1 := Lib.hid hr1; clear r1 g1 o1 hr1 m0 m1 m2 m3 m4 m5)
        have R3 : Hid (w1.ownsRow 0 45 2 (.slice ap1 (List.replicate (k + 1) (qT, bNb)).length cp1) (List.replicate (k + 1) (qT, bNb)).length (pcells (List.replicate (k + 1) (qT, bNb)))) := Lib.hid (by rw [HN2.out]; exact R1.out)
        have TG := Lib.hid (Turn.grown (l := (Value.slice ap L.length cp).ownBlock.toList) G1.out (fun k hk => .inl (by simp [hk])))
        have L3 : Hid (∀ g, (Value.slice ap1 (List.replicate (k + 1) (qT, bNb)).length cp1).ownBlock = some g → rb < g) := Lib.hid (fun g hg => by
          rw [HN2.out] at hg
          have hg : (Value.slice ap1 (L ++ [((⟨#[113]⟩ : ByteArray), (⟨#[98]⟩ : ByteArray))]).length cp1).ownBlock = some g := hg
          rcases O1.out with e | e
          · exact HLO.out g (by rw [← e]; exact hg)
          · rw [e] at hg
            have h2 := Option.some.inj hg
            have h3 := T2'.out.size
            have := HRS.out
            omega)
        have T3 := Lib.hid ((HT.out.trans T2'.out (by simp)).trans TG.out (fun i hi => .inr (by
          have := HLO.out i (by simpa using hi)
          have h4 := HZS.out
          omega)))
        have HBL : Hid (w1.setCell ⟨rb, 5, none⟩ (.slice ap1 (List.replicate (k + 1) (qT, bNb)).length cp1) = w1.setCell ⟨rb, 5, none⟩ (.slice ap1 (L.length + 1) cp1)) := Lib.hid (by rw [HN2.out, List.length_append]; rfl)
        go_roundw
        case rel =>
          rw [← HBL.out]
          exact ⟨k + 1, ap1, cp1, by omega, by go_num, block_set HR1.out _, ownsRow_turn R3.out (Turn.setCell (l := [rb]) (b := rb) (i := 5) w1 (by simp) _) (fun g hg => by have := L3.out g hg; simp; omega), L3.out, T3.out.trans (Turn.setCell (l := [rb]) (b := rb) (i := 5) w1 (by simp) _) (fun i hi => .inl hi)⟩
        case measure => simp [intOf]; omega
      · have hkk : n = k := by omega
        subst hkk
        have HCS : Hid (s0.cells noAds = #[.int .i64 s0.broker, .int .i64 s0.nextId, .int .i64 s0.nextSeq, .int .i64 s0.tx, .slice none 0 0, .slice none 0 0, .slice none 0 0, .slice none 0 0, .slice none 0 0]) := Lib.hid (by rw [HS0.out]; rfl)
        have HPS := Lib.hid (own_ps HR.out (rep_sz n))
        have BS : Hid (Bx wr b noAds s0) := Lib.hid ⟨HT.out.heap HB2.out (by have := HBR.out; simp; omega), HIS.out wr⟩
        have TR := Lib.hid (TZ.out.trans HT.out (fun i hi => .inr (by have h1 := HBR.out; have h2 := HWB.out; simp at hi; omega)))
        obtain ⟨nk, hnk⟩ : ∃ m, m = (List.replicate n (qT, bNb)).length := ⟨_, rfl⟩
        have C := can_calls BS.out.is HM0.out (rNb n) none ap 0 cp (il_none _) HPS.out (by show okI 4294967297; unfold okI; decide) (by show okI 0; unfold okI; decide)
        rw [HCS.out, show (rNb n).cells none 0 ap cp = #[.int .i64 4, .int .i64 4294967297, .int .i64 0, .bool false, .slice none 0 0, .slice ap (List.replicate n (qT, bNb)).length cp] from rfl, ← hnk] at C
        obtain ⟨ev, hev⟩ : ∃ e, e = canE s0 (rNb n) := ⟨_, rfl⟩
        have HEV : Hid (ev = if n ≤ l then 0 else 5) := Lib.hid (by rw [hev, HS0.out]; exact canNb' _ ⟨l, by omega⟩ ⟨n, by omega⟩)
        rw [← hev] at C
        have C1 := Lib.hid C
        have hh := BS.out.head
        rw [HCS.out] at hh
        obtain ⟨c0, c1, c2, c3, c4, c5, c6, c7, c8⟩ := nine_of hh
        rw [← hnk] at HX
        obtain ⟨m0, m1, m2, m3, m4, m5⟩ := six_of10 HX.out
        have HNK := Lib.hid hnk
        clear C hev hh HR HLO HB2 TZ HT hnk
        go_wp2_with fail
        clear c0 c1 c2 c3 c4 c5 c6 c7 c8 m0 m1 m2 m3 m4 m5
        refine C1.out.mono ?_
        rintro e x3 ⟨rfl, t3⟩
        have BS3 := Lib.hid (BS.out.still t3)
        have PS3 := Lib.hid (HPS.out.turn t3)
        have RB3 := Lib.hid (t3.heap HX.out (by simp))
        have TR3 := Lib.hid (TR.out.trans t3 (by simp))
        clear t3 C1 BS HPS HX TR
        go_upto_region 16 with fail
        have hh := BS3.out.head
        rw [HCS.out] at hh
        obtain ⟨c0, c1, c2, c3, c4, c5, c6, c7, c8⟩ := nine_of hh
        obtain ⟨m0, m1, m2, m3, m4, m5⟩ := six_of10 RB3.out
        have HSX : Hid (∀ x, Turn [] x3 x → x.cell? ⟨b, 0, none⟩ = some (.int .i64 s0.broker) ∧ x.cell? ⟨b, 1, none⟩ = some (.int .i64 s0.nextId) ∧ x.cell? ⟨b, 2, none⟩ = some (.int .i64 s0.nextSeq) ∧ x.cell? ⟨b, 3, none⟩ = some (.int .i64 s0.tx) ∧ x.cell? ⟨b, 4, none⟩ = some (.slice none 0 0) ∧ x.cell? ⟨b, 5, none⟩ = some (.slice none 0 0) ∧ x.cell? ⟨b, 6, none⟩ = some (.slice none 0 0) ∧ x.cell? ⟨b, 7, none⟩ = some (.slice none 0 0) ∧ x.cell? ⟨b, 8, none⟩ = some (.slice none 0 0) ∧ x.cell? ⟨rb, 0, none⟩ = some (.int .i64 4) ∧ x.cell? ⟨rb, 1, none⟩ = some (.int .i64 4294967297) ∧ x.cell? ⟨rb, 2, none⟩ = some (.int .i64 0) ∧ x.cell? ⟨rb, 3, none⟩ = some (.bool false) ∧ x.cell? ⟨rb, 4, none⟩ = some (.slice none 0 0) ∧ x.cell? ⟨rb, 5, none⟩ = some (.slice ap nk cp)) := Lib.hid (fun x t => ⟨t.cell c0 (by simp), t.cell c1 (by simp), t.cell c2 (by simp), t.cell c3 (by simp), t.cell c4 (by simp), t.cell c5 (by simp), t.cell c6 (by simp), t.cell c7 (by simp), t.cell c8 (by simp), t.cell m0 (by simp), t.cell m1 (by simp), t.cell m2 (by simp), t.cell m3 (by simp), t.cell m4 (by simp), t.cell m5 (by simp)⟩)
        clear c0 c1 c2 c3 c4 c5 c6 c7 c8 m0 m1 m2 m3 m4 m5 hh
        obtain ⟨u1, hu1⟩ : ∃ u, u = applyS s0 (rNb n) := ⟨_, rfl⟩
        have HM1 : Hid (MayP u1) := Lib.hid (by rw [hu1, HS0.out]; exact mayB_iff.1 (mNbP' _ ⟨l, by omega⟩ ⟨n, by omega⟩))
        obtain ⟨u2, hu2⟩ : ∃ u, u = applyS u1 dNb := ⟨_, rfl⟩
        have HE2 : Hid (mayB u2 = true ∧ (if n ≤ l then u2.ms.length = n ∧ u2.nextId = s0.nextId + (n : Int) ∧ u2.nextSeq = s0.nextSeq + (n : Int) else eqStB u2 s0 = true)) := Lib.hid (by rw [hu2, hu1, HS0.out]; exact endNb' _ ⟨l, by omega⟩ ⟨n, by omega⟩)
        have HM2 : Hid (MayP u2) := Lib.hid (mayB_iff.1 HE2.out.1)
        have C := fun (x : World) (td : Turn [] x3 x) => apply_rows (BS3.out.is.still td) HM0.out (rNb n) none ap 0 cp (il_none _) (PS3.out.turn td) (by show okI 4294967297; unfold okI; decide) (by show okI 0; unfold okI; decide) hu1.symm
        rw [HCS.out, show (rNb n).cells none 0 ap cp = #[.int .i64 4, .int .i64 4294967297, .int .i64 0, .bool false, .slice none 0 0, .slice ap (List.replicate n (qT, bNb)).length cp] from rfl, ← HNK.out] at C
        have HC1 := Lib.hid C
        have C := fun (x : World) (a7 : Ads) (is : StIs x a7 u1) => apply_rows is HM1.out dNb none none 0 0 (il_none x) (ps_none x) (by show okI 4294967297; unfold okI; decide) (by show okI 0; unfold okI; decide) hu2.symm
        rw [show dNb.cells none 0 none 0 = #[.int .i64 5, .int .i64 4294967297, .int .i64 0, .bool true, .slice none 0 0, .slice none 0 0] from rfl] at C
        have HC2 := Lib.hid C
        have TD := Lib.hid (Turn.drew [] x3)
        clear C hu1 hu2
        go_cut [12] from 53 to 59 (fun v12 wx => ∃ (p : Nat) (a8 : Ads), v12 = .pointer (some ⟨p, 0, none⟩) ∧ Bx wx p a8 u2 ∧ x3.heap.size ≤ p ∧ Turn [] x3 wx)
        case first =>
          refine Ph.start [] (fun x => x.cell? ⟨b, 0, none⟩ = some (.int .i64 s0.broker) ∧ x.cell? ⟨b, 1, none⟩ = some (.int .i64 s0.nextId) ∧ x.cell? ⟨b, 2, none⟩ = some (.int .i64 s0.nextSeq) ∧ x.cell? ⟨b, 3, none⟩ = some (.int .i64 s0.tx) ∧ x.cell? ⟨b, 4, none⟩ = some (.slice none 0 0) ∧ x.cell? ⟨b, 5, none⟩ = some (.slice none 0 0) ∧ x.cell? ⟨b, 6, none⟩ = some (.slice none 0 0) ∧ x.cell? ⟨b, 7, none⟩ = some (.slice none 0 0) ∧ x.cell? ⟨b, 8, none⟩ = some (.slice none 0 0) ∧ x.cell? ⟨rb, 0, none⟩ = some (.int .i64 4) ∧ x.cell? ⟨rb, 1, none⟩ = some (.int .i64 4294967297) ∧ x.cell? ⟨rb, 2, none⟩ = some (.int .i64 0) ∧ x.cell? ⟨rb, 3, none⟩ = some (.bool false) ∧ x.cell? ⟨rb, 4, none⟩ = some (.slice none 0 0) ∧ x.cell? ⟨rb, 5, none⟩ = some (.slice ap nk cp)) (by kernel_rfl) (HSX.out _ TD.out) ?_
          intro hS
          refine Ph.take (i := 0) (d := some 53) (v := ?_) rfl (by rfl) (by kernel_rfl) (by kernel_rfl) (by kernel_rfl) (by kernel_rfl) (fun _ _ _ h => h) (by rfl) hS ?_ ?_
          rotate_left
          · intro x hx
            obtain ⟨y0, y1, y2, y3, y4, y5, y6, y7, y8, y9, y10, y11, y12, y13, y14⟩ := hx
            go_simp
            try with_reducible rfl
          simp only [Act.put, List.setIfInBounds_toArray, List.set_cons_zero, List.set_cons_succ]
          refine Ph.take (i := 1) (d := some 54) (v := ?_) rfl (by rfl) (by kernel_rfl) (by kernel_rfl) (by kernel_rfl) (by kernel_rfl) (fun _ _ _ h => h) (by rfl) hS ?_ ?_
          rotate_left
          · intro x hx
            obtain ⟨y0, y1, y2, y3, y4, y5, y6, y7, y8, y9, y10, y11, y12, y13, y14⟩ := hx
            go_simp
            try with_reducible rfl
          simp only [Act.put, List.setIfInBounds_toArray, List.set_cons_zero, List.set_cons_succ]
          refine Ph.take (i := 3) (d := some 56) (v := ?_) rfl (by rfl) (by kernel_rfl) (by kernel_rfl) (by kernel_rfl) (by kernel_rfl) (fun _ _ _ h => h) (by rfl) hS ?_ ?_
          rotate_left
          · intro x hx
            go_simp
            try with_reducible rfl
          simp only [Act.put, List.setIfInBounds_toArray, List.set_cons_zero, List.set_cons_succ]
          refine Ph.take (i := 4) (d := some 57) (v := ?_) rfl (by rfl) (by kernel_rfl) (by kernel_rfl) (by kernel_rfl) (by kernel_rfl) (fun _ _ _ h => h) (by rfl) hS ?_ ?_
          rotate_left
          · intro x hx
            obtain ⟨y0, y1, y2, y3, y4, y5, y6, y7, y8, y9, y10, y11, y12, y13, y14⟩ := hx
            go_simp
            try with_reducible rfl
          simp only [Act.put, List.setIfInBounds_toArray, List.set_cons_zero, List.set_cons_succ]
          refine Ph.take (i := 5) (d := some 58) (v := ?_) rfl (by rfl) (by kernel_rfl) (by kernel_rfl) (by kernel_rfl) (by kernel_rfl) (fun _ _ _ h => h) (by rfl) hS ?_ ?_
          rotate_left
          · intro x hx
            go_simp
            try with_reducible rfl
          simp only [Act.put, List.setIfInBounds_toArray, List.set_cons_zero, List.set_cons_succ]
          refine Ph.two (i := 2) (j := 7) (by kernel_rfl) rfl rfl ?_ ?_
          · intro K hK
            rw [if_pos (by rfl)]
            go_simp
            refine (HC1.out _ TD.out).mono ?_
            rintro e x7 ⟨a7, LW, LO, LN, rfl, rA, tA⟩
            have T7 := Lib.hid (TD.out.trans tA (by simp))
            have IS7 := Lib.hid (rA.is HM1.out.deep)
            clear rA tA HC1
            dsimp only
            refine hK _ _ (HSX.out _ T7.out) (fun hS7 => ?_)
            clear hK K
            refine Ph.two (i := 6) (j := 7) (by kernel_rfl) rfl rfl ?_ ?_
            · intro K hK
              rw [if_pos (by rfl)]
              go_simp
              refine (HC2.out _ a7 IS7.out).mono ?_
              rintro e x8 ⟨a8, LW8, LO8, LN8, rfl, r8, t8⟩
              have T8 := Lib.hid (T7.out.trans t8 (by simp))
              have R8 := Lib.hid r8
              clear r8 t8 HC2
              dsimp only
              refine hK _ _ (HSX.out _ T8.out) (fun hS8 => ?_)
              clear hK K
              refine Ph.one (i := 7) (by kernel_rfl) rfl ?_
              intro K hK
              rw [if_pos (by rfl)]
              go_simp
              refine hK _ _ (HSX.out _ (T8.out.trans (Turn.alloc [] x8 (.cells #[.int .i64 0, .int .i64 0, .int .i64 0, .int .i64 0, .slice none 0 0, .slice none 0 0, .slice none 0 0, .slice none 0 0, .slice none 0 0] 27)) (by simp))) (fun hS9 => ?_)
              clear hK K
              rw [show u2.cells a8 = #[.int .i64 u2.broker, .int .i64 u2.nextId, .int .i64 u2.nextSeq, .int .i64 u2.tx, .slice a8.m u2.ms.length a8.cm, .slice a8.w u2.waits.length a8.cw, .slice a8.e u2.ends.length a8.ce, .slice a8.o u2.open_.length a8.co, .slice a8.n u2.noes.length a8.cn] from rfl]
              refine Ph.one (i := 8) (by kernel_rfl) rfl ?_
              intro K hK
              rw [if_pos (by rfl)]
              go_simp
              have BE : Hid (Bx (x8.alloc (.cells (u2.cells a8) 27)) x8.heap.size a8 u2) := Lib.hid (Bx.new (R8.out.is HM2.out.deep))
              have TE : Hid (Turn [] x3 (x8.alloc (.cells (u2.cells a8) 27))) := Lib.hid (T8.out.trans (Turn.alloc [] x8 _) (by simp))
              rw [show u2.cells a8 = #[.int .i64 u2.broker, .int .i64 u2.nextId, .int .i64 u2.nextSeq, .int .i64 u2.tx, .slice a8.m u2.ms.length a8.cm, .slice a8.w u2.waits.length a8.cw, .slice a8.e u2.ends.length a8.ce, .slice a8.o u2.open_.length a8.co, .slice a8.n u2.noes.length a8.cn] from rfl] at BE TE
              refine hK _ _ (HSX.out _ TE.out) (fun _ => Ph.done (by kernel_rfl) ?_ _)
              clear hK K
              go_wp2_with fail
              go_meet
              exact ⟨x8.heap.size, a8, rfl, BE.out, T8.out.size, TE.out⟩
            · intro K hK
              rw [if_pos (by rfl)]
              go_simp
              have BZ : Hid (Bx (x7.alloc (.cells #[.int .i64 0, .int .i64 0, .int .i64 0, .int .i64 0, .slice none 0 0, .slice none 0 0, .slice none 0 0, .slice none 0 0, .slice none 0 0] 27)) x7.heap.size noAds sZ) := Lib.hid (Bx.new (StZ x7))
              have TA := Lib.hid (T7.out.trans (Turn.alloc [] x7 (.cells #[.int .i64 0, .int .i64 0, .int .i64 0, .int .i64 0, .slice none 0 0, .slice none 0 0, .slice none 0 0, .slice none 0 0, .slice none 0 0] 27)) (by simp))
              refine hK _ _ (HSX.out _ TA.out) (fun hS9 => ?_)
              clear hK K
              have IS7 := Lib.hid (IS7.out.still (Turn.alloc [] x7 (.cells #[.int .i64 0, .int .i64 0, .int .i64 0, .int .i64 0, .slice none 0 0, .slice none 0 0, .slice none 0 0, .slice none 0 0, .slice none 0 0] 27)))
              refine Ph.one (i := 6) (by kernel_rfl) rfl ?_
              intro K hK
              rw [if_pos (by rfl)]
              go_simp
              refine (HC2.out _ a7 IS7.out).mono ?_
              rintro e x8 ⟨a8, LW8, LO8, LN8, rfl, r8, t8⟩
              have T8 := Lib.hid (TA.out.trans t8 (by simp))
              have R8 := Lib.hid r8
              have BZ := Lib.hid (BZ.out.still t8)
              clear r8 t8 HC2
              dsimp only
              refine hK _ _ (HSX.out _ T8.out) (fun hS8 => ?_)
              clear hK K
              rw [show u2.cells a8 = #[.int .i64 u2.broker, .int .i64 u2.nextId, .int .i64 u2.nextSeq, .int .i64 u2.tx, .slice a8.m u2.ms.length a8.cm, .slice a8.w u2.waits.length a8.cw, .slice a8.e u2.ends.length a8.ce, .slice a8.o u2.open_.length a8.co, .slice a8.n u2.noes.length a8.cn] from rfl]
              have sx := bx_store BZ.out R8.out HM2.out
              have SX : Hid (Bx (((((((((x8.setCell ⟨x7.heap.size, 0, none⟩ (.int .i64 u2.broker)).setCell ⟨x7.heap.size, 1, none⟩ (.int .i64 u2.nextId)).setCell ⟨x7.heap.size, 2, none⟩ (.int .i64 u2.nextSeq)).setCell ⟨x7.heap.size, 3, none⟩ (.int .i64 u2.tx)).setCell ⟨x7.heap.size, 4, none⟩ (.slice a8.m u2.ms.length a8.cm)).setCell ⟨x7.heap.size, 5, none⟩ (.slice a8.w u2.waits.length a8.cw)).setCell ⟨x7.heap.size, 6, none⟩ (.slice a8.e u2.ends.length a8.ce)).setCell ⟨x7.heap.size, 7, none⟩ (.slice a8.o u2.open_.length a8.co)).setCell ⟨x7.heap.size, 8, none⟩ (.slice a8.n u2.noes.length a8.cn)) x7.heap.size a8 u2 ∧ Turn [x7.heap.size] x8 (((((((((x8.setCell ⟨x7.heap.size, 0, none⟩ (.int .i64 u2.broker)).setCell ⟨x7.heap.size, 1, none⟩ (.int .i64 u2.nextId)).setCell ⟨x7.heap.size, 2, none⟩ (.int .i64 u2.nextSeq)).setCell ⟨x7.heap.size, 3, none⟩ (.int .i64 u2.tx)).setCell ⟨x7.heap.size, 4, none⟩ (.slice a8.m u2.ms.length a8.cm)).setCell ⟨x7.heap.size, 5, none⟩ (.slice a8.w u2.waits.length a8.cw)).setCell ⟨x7.heap.size, 6, none⟩ (.slice a8.e u2.ends.length a8.ce)).setCell ⟨x7.heap.size, 7, none⟩ (.slice a8.o u2.open_.length a8.co)).setCell ⟨x7.heap.size, 8, none⟩ (.slice a8.n u2.noes.length a8.cn))) := Lib.hid sx
              have hh := BZ.out.head
              rw [show sZ.cells noAds = #[.int .i64 0, .int .i64 0, .int .i64 0, .int .i64 0, .slice none 0 0, .slice none 0 0, .slice none 0 0, .slice none 0 0, .slice none 0 0] from rfl] at hh
              obtain ⟨c0, c1, c2, c3, c4, c5, c6, c7, c8⟩ := nine_of hh
              have f0 : ∀ j, x8.frozen? ⟨x7.heap.size, j, none⟩ = false := fun j => unfrozen_of hh
              have HPP : Hid (x3.heap.size ≤ x7.heap.size) := Lib.hid (by first | exact Nat.le_refl _ | exact T7.out.size)
              have TE : Hid (Turn [] x3 (((((((((x8.setCell ⟨x7.heap.size, 0, none⟩ (.int .i64 u2.broker)).setCell ⟨x7.heap.size, 1, none⟩ (.int .i64 u2.nextId)).setCell ⟨x7.heap.size, 2, none⟩ (.int .i64 u2.nextSeq)).setCell ⟨x7.heap.size, 3, none⟩ (.int .i64 u2.tx)).setCell ⟨x7.heap.size, 4, none⟩ (.slice a8.m u2.ms.length a8.cm)).setCell ⟨x7.heap.size, 5, none⟩ (.slice a8.w u2.waits.length a8.cw)).setCell ⟨x7.heap.size, 6, none⟩ (.slice a8.e u2.ends.length a8.ce)).setCell ⟨x7.heap.size, 7, none⟩ (.slice a8.o u2.open_.length a8.co)).setCell ⟨x7.heap.size, 8, none⟩ (.slice a8.n u2.noes.length a8.cn))) := Lib.hid (T8.out.trans SX.out.2 (fun i hi => .inr (by have := HPP.out; simp at hi; omega)))
              clear sx hh
              refine Ph.one (i := 8) (by kernel_rfl) rfl ?_
              intro K hK
              rw [if_pos (by rfl)]
              go_simp
              refine hK _ _ (HSX.out _ TE.out) (fun _ => Ph.done (by kernel_rfl) ?_ _)
              clear hK K c0 c1 c2 c3 c4 c5 c6 c7 c8 f0
              go_wp2_with fail
              go_meet
              exact ⟨x7.heap.size, a8, rfl, SX.out.1, HPP.out, TE.out⟩
          · intro K hK
            rw [if_pos (by rfl)]
            go_simp
            have BZ : Hid (Bx (x3.drew.alloc (.cells #[.int .i64 0, .int .i64 0, .int .i64 0, .int .i64 0, .slice none 0 0, .slice none 0 0, .slice none 0 0, .slice none 0 0, .slice none 0 0] 27)) x3.heap.size noAds sZ) := Lib.hid (Bx.new (StZ x3.drew))
            have TA := Lib.hid (TD.out.trans (Turn.alloc [] x3.drew (.cells #[.int .i64 0, .int .i64 0, .int .i64 0, .int .i64 0, .slice none 0 0, .slice none 0 0, .slice none 0 0, .slice none 0 0, .slice none 0 0] 27)) (by simp))
            refine hK _ _ (HSX.out _ TA.out) (fun hS9 => ?_)
            clear hK K
            refine Ph.one (i := 2) (by kernel_rfl) rfl ?_
            intro K hK
            rw [if_pos (by rfl)]
            go_simp
            refine (HC1.out _ TA.out).mono ?_
            rintro e x7 ⟨a7, LW, LO, LN, rfl, rA, tA⟩
            have T7 := Lib.hid (TA.out.trans tA (by simp))
            have IS7 := Lib.hid (rA.is HM1.out.deep)
            have BZ := Lib.hid (BZ.out.still tA)
            clear rA tA HC1
            dsimp only
            refine hK _ _ (HSX.out _ T7.out) (fun hS7 => ?_)
            clear hK K
            refine Ph.one (i := 6) (by kernel_rfl) rfl ?_
            intro K hK
            rw [if_pos (by rfl)]
            go_simp
            refine (HC2.out _ a7 IS7.out).mono ?_
            rintro e x8 ⟨a8, LW8, LO8, LN8, rfl, r8, t8⟩
            have T8 := Lib.hid (T7.out.trans t8 (by simp))
            have R8 := Lib.hid r8
            have BZ := Lib.hid (BZ.out.still t8)
            clear r8 t8 HC2
            dsimp only
            refine hK _ _ (HSX.out _ T8.out) (fun hS8 => ?_)
            clear hK K
            rw [show u2.cells a8 = #[.int .i64 u2.broker, .int .i64 u2.nextId, .int .i64 u2.nextSeq, .int .i64 u2.tx, .slice a8.m u2.ms.length a8.cm, .slice a8.w u2.waits.length a8.cw, .slice a8.e u2.ends.length a8.ce, .slice a8.o u2.open_.length a8.co, .slice a8.n u2.noes.length a8.cn] from rfl]
            have sx := bx_store BZ.out R8.out HM2.out
            have SX : Hid (Bx (((((((((x8.setCell ⟨x3.heap.size, 0, none⟩ (.int .i64 u2.broker)).setCell ⟨x3.heap.size, 1, none⟩ (.int .i64 u2.nextId)).setCell ⟨x3.heap.size, 2, none⟩ (.int .i64 u2.nextSeq)).setCell ⟨x3.heap.size, 3, none⟩ (.int .i64 u2.tx)).setCell ⟨x3.heap.size, 4, none⟩ (.slice a8.m u2.ms.length a8.cm)).setCell ⟨x3.heap.size, 5, none⟩ (.slice a8.w u2.waits.length a8.cw)).setCell ⟨x3.heap.size, 6, none⟩ (.slice a8.e u2.ends.length a8.ce)).setCell ⟨x3.heap.size, 7, none⟩ (.slice a8.o u2.open_.length a8.co)).setCell ⟨x3.heap.size, 8, none⟩ (.slice a8.n u2.noes.length a8.cn)) x3.heap.size a8 u2 ∧ Turn [x3.heap.size] x8 (((((((((x8.setCell ⟨x3.heap.size, 0, none⟩ (.int .i64 u2.broker)).setCell ⟨x3.heap.size, 1, none⟩ (.int .i64 u2.nextId)).setCell ⟨x3.heap.size, 2, none⟩ (.int .i64 u2.nextSeq)).setCell ⟨x3.heap.size, 3, none⟩ (.int .i64 u2.tx)).setCell ⟨x3.heap.size, 4, none⟩ (.slice a8.m u2.ms.length a8.cm)).setCell ⟨x3.heap.size, 5, none⟩ (.slice a8.w u2.waits.length a8.cw)).setCell ⟨x3.heap.size, 6, none⟩ (.slice a8.e u2.ends.length a8.ce)).setCell ⟨x3.heap.size, 7, none⟩ (.slice a8.o u2.open_.length a8.co)).setCell ⟨x3.heap.size, 8, none⟩ (.slice a8.n u2.noes.length a8.cn))) := Lib.hid sx
            have hh := BZ.out.head
            rw [show sZ.cells noAds = #[.int .i64 0, .int .i64 0, .int .i64 0, .int .i64 0, .slice none 0 0, .slice none 0 0, .slice none 0 0, .slice none 0 0, .slice none 0 0] from rfl] at hh
            obtain ⟨c0, c1, c2, c3, c4, c5, c6, c7, c8⟩ := nine_of hh
            have f0 : ∀ j, x8.frozen? ⟨x3.heap.size, j, none⟩ = false := fun j => unfrozen_of hh
            have HPP : Hid (x3.heap.size ≤ x3.heap.size) := Lib.hid (by first | exact Nat.le_refl _ | exact T7.out.size)
            have TE : Hid (Turn [] x3 (((((((((x8.setCell ⟨x3.heap.size, 0, none⟩ (.int .i64 u2.broker)).setCell ⟨x3.heap.size, 1, none⟩ (.int .i64 u2.nextId)).setCell ⟨x3.heap.size, 2, none⟩ (.int .i64 u2.nextSeq)).setCell ⟨x3.heap.size, 3, none⟩ (.int .i64 u2.tx)).setCell ⟨x3.heap.size, 4, none⟩ (.slice a8.m u2.ms.length a8.cm)).setCell ⟨x3.heap.size, 5, none⟩ (.slice a8.w u2.waits.length a8.cw)).setCell ⟨x3.heap.size, 6, none⟩ (.slice a8.e u2.ends.length a8.ce)).setCell ⟨x3.heap.size, 7, none⟩ (.slice a8.o u2.open_.length a8.co)).setCell ⟨x3.heap.size, 8, none⟩ (.slice a8.n u2.noes.length a8.cn))) := Lib.hid (T8.out.trans SX.out.2 (fun i hi => .inr (by have := HPP.out; simp at hi; omega)))
            clear sx hh
            refine Ph.one (i := 8) (by kernel_rfl) rfl ?_
            intro K hK
            rw [if_pos (by rfl)]
            go_simp
            refine hK _ _ (HSX.out _ TE.out) (fun _ => Ph.done (by kernel_rfl) ?_ _)
            clear hK K c0 c1 c2 c3 c4 c5 c6 c7 c8 f0
            go_wp2_with fail
            go_meet
            exact ⟨x3.heap.size, a8, rfl, SX.out.1, HPP.out, TE.out⟩
        case rest =>
          obtain ⟨p, a8, rfl, hbx, hp, ht⟩ := hcut
          have BU := Lib.hid hbx
          have T3 := Lib.hid ht
          have BS4 := Lib.hid (BS3.out.still ht)
          clear hbx ht HC1 HC2 TD HSX PS3 RB3 BS3
          have TW := Lib.hid (TR3.out.trans T3.out (by simp))
          by_cases hnl : n ≤ l
          · have he : ev = 0 := by rw [HEV.out, if_pos hnl]
            subst he
            have h2 := HE2.out.2
            rw [if_pos hnl] at h2
            obtain ⟨hms, hid, hsq⟩ := h2
            have hc : decide ((n : Int) ≤ (l : Int)) = true := decide_eq_true (by omega)
            have hb1 := HM0.out.id1
            have hb2 := HM0.out.id2
            have hb3 := HM0.out.seq1
            have hb4 := HM0.out.seq2
            have hw1 : IntKind.i64.wrap (s0.nextId + (n : Int)) = s0.nextId + (n : Int) := by rw [IntKind.wrap_i64]; omega
            have hw2 : IntKind.i64.wrap (s0.nextSeq + (n : Int)) = s0.nextSeq + (n : Int) := by rw [IntKind.wrap_i64]; omega
            have C := may_calls BU.out.is HM2.out.fit
            rw [HE2.out.1, show u2.cells a8 = #[.int .i64 u2.broker, .int .i64 u2.nextId, .int .i64 u2.nextSeq, .int .i64 u2.tx, .slice a8.m u2.ms.length a8.cm, .slice a8.w u2.waits.length a8.cw, .slice a8.e u2.ends.length a8.ce, .slice a8.o u2.open_.length a8.co, .slice a8.n u2.noes.length a8.cn] from rfl, hms, hid, hsq] at C
            have C1 := Lib.hid C
            have hh := BU.out.head
            rw [show u2.cells a8 = #[.int .i64 u2.broker, .int .i64 u2.nextId, .int .i64 u2.nextSeq, .int .i64 u2.tx, .slice a8.m u2.ms.length a8.cm, .slice a8.w u2.waits.length a8.cw, .slice a8.e u2.ends.length a8.ce, .slice a8.o u2.open_.length a8.co, .slice a8.n u2.noes.length a8.cn] from rfl, hms, hid, hsq] at hh
            have HHU := Lib.hid hh
            have hg := BS4.out.head
            rw [HCS.out] at hg
            have HHS := Lib.hid hg
            obtain ⟨c0, c1, c2, c3, c4, c5, c6, c7, c8⟩ := nine_of hg
            obtain ⟨e0, e1, e2, e3, e4, e5, e6, e7, e8⟩ := nine_of hh
            clear hh hg C hms hid hsq hb1 hb2 hb3 hb4 HM0 HM1 HM2 HIS HE2
            go_wp2_with fail
            refine C1.out.mono ?_
            rintro e x5 ⟨rfl, t5⟩
            clear c0 c1 c2 c3 c4 c5 c6 c7 c8 e0 e1 e2 e3 e4 e5 e6 e7 e8
            obtain ⟨c0, c1, c2, c3, c4, c5, c6, c7, c8⟩ := nine_of (t5.heap HHS.out (by simp))
            obtain ⟨e0, e1, e2, e3, e4, e5, e6, e7, e8⟩ := nine_of (t5.heap HHU.out (by simp))
            have T5 := Lib.hid (TW.out.trans t5 (by simp))
            clear t5 C1
            go_wp2_with fail
            go_ret
            exact ⟨ret_bool (by first | rfl | simp), T5.out.belowAll⟩
          · have he : ev = 5 := by rw [HEV.out, if_neg hnl]
            subst he
            have h2 := HE2.out.2
            rw [if_neg hnl] at h2
            have hu := (eqStB_iff _ _).1 h2
            subst hu
            have hc : decide ((n : Int) ≤ (l : Int)) = false := decide_eq_false (by omega)
            have C := refEq_nil u2 a8 noAds (by rw [HS0.out]; exact nb_nil _ _) wc
            rw [HCS.out, show u2.cells a8 = #[.int .i64 u2.broker, .int .i64 u2.nextId, .int .i64 u2.nextSeq, .int .i64 u2.tx, .slice a8.m u2.ms.length a8.cm, .slice a8.w u2.waits.length a8.cw, .slice a8.e u2.ends.length a8.ce, .slice a8.o u2.open_.length a8.co, .slice a8.n u2.noes.length a8.cn] from rfl] at C
            have C1 := Lib.hid C
            have hh := BU.out.head
            rw [show u2.cells a8 = #[.int .i64 u2.broker, .int .i64 u2.nextId, .int .i64 u2.nextSeq, .int .i64 u2.tx, .slice a8.m u2.ms.length a8.cm, .slice a8.w u2.waits.length a8.cw, .slice a8.e u2.ends.length a8.ce, .slice a8.o u2.open_.length a8.co, .slice a8.n u2.noes.length a8.cn] from rfl] at hh
            have hg := BS4.out.head
            rw [HCS.out] at hg
            obtain ⟨c0, c1, c2, c3, c4, c5, c6, c7, c8⟩ := nine_of hg
            obtain ⟨e0, e1, e2, e3, e4, e5, e6, e7, e8⟩ := nine_of hh
            clear hh hg C h2
            go_wp2_with fail
            refine C1.out.mono ?_
            rintro e x5 ⟨rfl, t5⟩
            have T5 := Lib.hid (TW.out.trans t5 (by simp))
            clear t5 C1
            go_wp2_with fail
            go_ret
            exact ⟨rfl, T5.out.belowAll⟩
  | false =>
    go_upto_region 10 with fail
    have HB1 : Hid ((y0.setCell ⟨b, 1, none⟩ (.int .i64 (4294967296 - (l : Int)))).heap[b]? = some (.cells (s0.cells noAds) 27)) := Lib.hid (by
      have h1 := block_set (i := 1) hb0 (.int .i64 (4294967296 - (l : Int)))
      simp only [List.setIfInBounds_toArray, List.set_cons_zero, List.set_cons_succ] at h1
      rw [HS0.out]
      exact h1)
    have TY := Lib.hid (T0.out.trans (Turn.setCell (l := [b]) (b := b) (i := 1) y0 (by simp) (.int .i64 (4294967296 - (l : Int)))) (fun j hj => .inr (by have := HWB.out; simp at hj; omega)))
    generalize y0.setCell ⟨b, 1, none⟩ (.int .i64 (4294967296 - (l : Int))) = y at *
    clear c0 c1 c2 c3 c4 c5 c6 c7 c8 f0 hw1 hw2 hb0 T0
    go_upto_region 12 with fail
    have hr0 := heap_alloc_new y (.cells #[.int .i64 4, .int .i64 4294967297, .int .i64 0, .bool false, .slice none 0 0, .slice none 0 0] 37)
    have ta := Turn.alloc [] y (.cells #[.int .i64 4, .int .i64 4294967297, .int .i64 0, .bool false, .slice none 0 0, .slice none 0 0] 37)
    have HB2 := Lib.hid (ta.heap HB1.out (by simp))
    have TZ := Lib.hid (TY.out.trans ta (by simp))
    have HBR : Hid (b < y.heap.size) := Lib.hid (lt_of_heap HB1.out)
    have HZS : Hid ((y.alloc (.cells #[.int .i64 4, .int .i64 4294967297, .int .i64 0, .bool false, .slice none 0 0, .slice none 0 0] 37)).heap.size = y.heap.size + 1) := Lib.hid (by simp)
    generalize y.alloc (.cells #[.int .i64 4, .int .i64 4294967297, .int .i64 0, .bool false, .slice none 0 0, .slice none 0 0] 37) = z at *
    obtain ⟨rb, hrb⟩ : ∃ r, r = y.heap.size := ⟨_, rfl⟩
    rw [← hrb] at hr0 HBR HZS ⊢
    have HR0 := Lib.hid hr0
    clear hrb hr0 ta HB1 TY
    go_loopw [10] (fun vi wx => ∃ (k : Nat) (ap : Option Addr) (cp : Nat), k ≤ n ∧ vi = .int .i64 (k : Int) ∧ wx.heap[rb]? = some (.cells #[.int .i64 4, .int .i64 4294967297, .int .i64 0, .bool false, .slice none 0 0, .slice ap (List.replicate k (qT, bNb)).length cp] 37) ∧ wx.ownsRow 0 45 2 (.slice ap (List.replicate k (qT, bNb)).length cp) (List.replicate k (qT, bNb)).length (pcells (List.replicate k (qT, bNb))) ∧ (∀ g, (Value.slice ap (List.replicate k (qT, bNb)).length cp).ownBlock = some g → rb < g) ∧ Turn [rb] z wx) (fun vi _ => n - (intOf vi).toNat)
    case atStart => exact ⟨0, none, 0, by omega, rfl, HR0.out, World.ownsRow_nil _ _ _ _, (by intro g hg; cases hg), Turn.refl _ _⟩
    case round =>
      obtain ⟨k, ap, cp, hk, rfl, hrec, hrow, hlow, ht⟩ := hrel
      have HT := Lib.hid ht
      have HR := Lib.hid hrow
      have HX := Lib.hid hrec
      have HLO := Lib.hid hlow
      clear hrow hlow ht hrec HR0
      by_cases hkn : k < n
      · have T2' := Lib.hid (Turn.alloc [] wr (.cells #[.string ⟨#[113]⟩, .string ⟨#[98]⟩] 45))
        have R2 := Lib.hid (ownsRow_turn HR.out T2'.out (by simp))
        have Q2 := Lib.hid (two_of10 (heap_alloc_new wr (.cells #[.string ⟨#[113]⟩, .string ⟨#[98]⟩] 45)))
        have HLEN : Hid ((List.replicate k (qT, bNb)).length ≤ 1000000) := Lib.hid (by rw [List.length_replicate]; omega)
        have HN2 := Lib.hid (rep_next k)
        have HRS : Hid (rb < wr.heap.size) := Lib.hid (lt_of_heap HX.out)
        obtain ⟨L, hL⟩ : ∃ L, L = List.replicate k (qT, bNb) := ⟨_, rfl⟩
        rw [← hL] at HX HLO R2 HLEN HN2 HR
        obtain ⟨m0, m1, m2, m3, m4, m5⟩ := six_of10 HX.out
        clear hL m0 m1 m2 m3 m4
        go_wp2_with (at_builtin; refine append_put rfl (.tmp 45) (.tmp 47) rfl (.slice ap L.length cp) L rfl R2.out wr.heap.size (⟨#[113]⟩, ⟨#[98]⟩) rfl Q2.out.1 Q2.out.2 HLEN.out ?_; intro v1 w1 r1 g1 o1; obtain ⟨ap1, cp1, hv1⟩ := slice_form r1; subst hv1; have hr1 := grown_rec (T2'.out.heap HX.out (by simp)) g1 HLO.out; obtain ⟨m0, m1, m2, m3, m4, m5'⟩ := six_of10 hr1; have fr : ∀ j, w1.frozen? ⟨rb, j, none⟩ = false := fun j => unfrozen_of hr1; have R1 := Lib.hid r1; have G1 := Lib.hid g1; have O1 := Lib.hid o1; have HR1 := Lib.hid hr1; clear r1 g1 o1 hr1 m0 m1 m2 m3 m4 m5)
        have R3 : Hid (w1.ownsRow 0 45 2 (.slice ap1 (List.replicate (k + 1) (qT, bNb)).length cp1) (List.replicate (k + 1) (qT, bNb)).length (pcells (List.replicate (k + 1) (qT, bNb)))) := Lib.hid (by rw [HN2.out]; exact R1.out)
        have TG := Lib.hid (Turn.grown (l := (Value.slice ap L.length cp).ownBlock.toList) G1.out (fun k hk => .inl (by simp [hk])))
        have L3 : Hid (∀ g, (Value.slice ap1 (List.replicate (k + 1) (qT, bNb)).length cp1).ownBlock = some g → rb < g) := Lib.hid (fun g hg => by
          rw [HN2.out] at hg
          have hg : (Value.slice ap1 (L ++ [((⟨#[113]⟩ : ByteArray), (⟨#[98]⟩ : ByteArray))]).length cp1).ownBlock = some g := hg
          rcases O1.out with e | e
          · exact HLO.out g (by rw [← e]; exact hg)
          · rw [e] at hg
            have h2 := Option.some.inj hg
            have h3 := T2'.out.size
            have := HRS.out
            omega)
        have T3 := Lib.hid ((HT.out.trans T2'.out (by simp)).trans TG.out (fun i hi => .inr (by
          have := HLO.out i (by simpa using hi)
          have h4 := HZS.out
          omega)))
        have HBL : Hid (w1.setCell ⟨rb, 5, none⟩ (.slice ap1 (List.replicate (k + 1) (qT, bNb)).length cp1) = w1.setCell ⟨rb, 5, none⟩ (.slice ap1 (L.length + 1) cp1)) := Lib.hid (by rw [HN2.out, List.length_append]; rfl)
        go_roundw
        case rel =>
          rw [← HBL.out]
          exact ⟨k + 1, ap1, cp1, by omega, by go_num, block_set HR1.out _, ownsRow_turn R3.out (Turn.setCell (l := [rb]) (b := rb) (i := 5) w1 (by simp) _) (fun g hg => by have := L3.out g hg; simp; omega), L3.out, T3.out.trans (Turn.setCell (l := [rb]) (b := rb) (i := 5) w1 (by simp) _) (fun i hi => .inl hi)⟩
        case measure => simp [intOf]; omega
      · have hkk : n = k := by omega
        subst hkk
        have HCS : Hid (s0.cells noAds = #[.int .i64 s0.broker, .int .i64 s0.nextId, .int .i64 s0.nextSeq, .int .i64 s0.tx, .slice none 0 0, .slice none 0 0, .slice none 0 0, .slice none 0 0, .slice none 0 0]) := Lib.hid (by rw [HS0.out]; rfl)
        have HPS := Lib.hid (own_ps HR.out (rep_sz n))
        have BS : Hid (Bx wr b noAds s0) := Lib.hid ⟨HT.out.heap HB2.out (by have := HBR.out; simp; omega), HIS.out wr⟩
        have TR := Lib.hid (TZ.out.trans HT.out (fun i hi => .inr (by have h1 := HBR.out; have h2 := HWB.out; simp at hi; omega)))
        obtain ⟨nk, hnk⟩ : ∃ m, m = (List.replicate n (qT, bNb)).length := ⟨_, rfl⟩
        have C := can_calls BS.out.is HM0.out (rNb n) none ap 0 cp (il_none _) HPS.out (by show okI 4294967297; unfold okI; decide) (by show okI 0; unfold okI; decide)
        rw [HCS.out, show (rNb n).cells none 0 ap cp = #[.int .i64 4, .int .i64 4294967297, .int .i64 0, .bool false, .slice none 0 0, .slice ap (List.replicate n (qT, bNb)).length cp] from rfl, ← hnk] at C
        obtain ⟨ev, hev⟩ : ∃ e, e = canE s0 (rNb n) := ⟨_, rfl⟩
        have HEV : Hid (ev = if n ≤ l then 0 else 5) := Lib.hid (by rw [hev, HS0.out]; exact canNb' _ ⟨l, by omega⟩ ⟨n, by omega⟩)
        rw [← hev] at C
        have C1 := Lib.hid C
        have hh := BS.out.head
        rw [HCS.out] at hh
        obtain ⟨c0, c1, c2, c3, c4, c5, c6, c7, c8⟩ := nine_of hh
        rw [← hnk] at HX
        obtain ⟨m0, m1, m2, m3, m4, m5⟩ := six_of10 HX.out
        have HNK := Lib.hid hnk
        clear C hev hh HR HLO HB2 TZ HT hnk
        go_wp2_with fail
        clear c0 c1 c2 c3 c4 c5 c6 c7 c8 m0 m1 m2 m3 m4 m5
        refine C1.out.mono ?_
        rintro e x3 ⟨rfl, t3⟩
        have BS3 := Lib.hid (BS.out.still t3)
        have PS3 := Lib.hid (HPS.out.turn t3)
        have RB3 := Lib.hid (t3.heap HX.out (by simp))
        have TR3 := Lib.hid (TR.out.trans t3 (by simp))
        clear t3 C1 BS HPS HX TR
        go_upto_region 16 with fail
        have hh := BS3.out.head
        rw [HCS.out] at hh
        obtain ⟨c0, c1, c2, c3, c4, c5, c6, c7, c8⟩ := nine_of hh
        obtain ⟨m0, m1, m2, m3, m4, m5⟩ := six_of10 RB3.out
        have HSX : Hid (∀ x, Turn [] x3 x → x.cell? ⟨b, 0, none⟩ = some (.int .i64 s0.broker) ∧ x.cell? ⟨b, 1, none⟩ = some (.int .i64 s0.nextId) ∧ x.cell? ⟨b, 2, none⟩ = some (.int .i64 s0.nextSeq) ∧ x.cell? ⟨b, 3, none⟩ = some (.int .i64 s0.tx) ∧ x.cell? ⟨b, 4, none⟩ = some (.slice none 0 0) ∧ x.cell? ⟨b, 5, none⟩ = some (.slice none 0 0) ∧ x.cell? ⟨b, 6, none⟩ = some (.slice none 0 0) ∧ x.cell? ⟨b, 7, none⟩ = some (.slice none 0 0) ∧ x.cell? ⟨b, 8, none⟩ = some (.slice none 0 0) ∧ x.cell? ⟨rb, 0, none⟩ = some (.int .i64 4) ∧ x.cell? ⟨rb, 1, none⟩ = some (.int .i64 4294967297) ∧ x.cell? ⟨rb, 2, none⟩ = some (.int .i64 0) ∧ x.cell? ⟨rb, 3, none⟩ = some (.bool false) ∧ x.cell? ⟨rb, 4, none⟩ = some (.slice none 0 0) ∧ x.cell? ⟨rb, 5, none⟩ = some (.slice ap nk cp)) := Lib.hid (fun x t => ⟨t.cell c0 (by simp), t.cell c1 (by simp), t.cell c2 (by simp), t.cell c3 (by simp), t.cell c4 (by simp), t.cell c5 (by simp), t.cell c6 (by simp), t.cell c7 (by simp), t.cell c8 (by simp), t.cell m0 (by simp), t.cell m1 (by simp), t.cell m2 (by simp), t.cell m3 (by simp), t.cell m4 (by simp), t.cell m5 (by simp)⟩)
        clear c0 c1 c2 c3 c4 c5 c6 c7 c8 m0 m1 m2 m3 m4 m5 hh
        obtain ⟨u1, hu1⟩ : ∃ u, u = applyS s0 (rNb n) := ⟨_, rfl⟩
        have HM1 : Hid (MayP u1) := Lib.hid (by rw [hu1, HS0.out]; exact mayB_iff.1 (mNbP' _ ⟨l, by omega⟩ ⟨n, by omega⟩))
        obtain ⟨u2, hu2⟩ : ∃ u, u = applyS u1 dNb := ⟨_, rfl⟩
        have HE2 : Hid (mayB u2 = true ∧ (if n ≤ l then u2.ms.length = n ∧ u2.nextId = s0.nextId + (n : Int) ∧ u2.nextSeq = s0.nextSeq + (n : Int) else eqStB u2 s0 = true)) := Lib.hid (by rw [hu2, hu1, HS0.out]; exact endNb' _ ⟨l, by omega⟩ ⟨n, by omega⟩)
        have HM2 : Hid (MayP u2) := Lib.hid (mayB_iff.1 HE2.out.1)
        have C := fun (x : World) (td : Turn [] x3 x) => apply_rows (BS3.out.is.still td) HM0.out (rNb n) none ap 0 cp (il_none _) (PS3.out.turn td) (by show okI 4294967297; unfold okI; decide) (by show okI 0; unfold okI; decide) hu1.symm
        rw [HCS.out, show (rNb n).cells none 0 ap cp = #[.int .i64 4, .int .i64 4294967297, .int .i64 0, .bool false, .slice none 0 0, .slice ap (List.replicate n (qT, bNb)).length cp] from rfl, ← HNK.out] at C
        have HC1 := Lib.hid C
        have C := fun (x : World) (a7 : Ads) (is : StIs x a7 u1) => apply_rows is HM1.out dNb none none 0 0 (il_none x) (ps_none x) (by show okI 4294967297; unfold okI; decide) (by show okI 0; unfold okI; decide) hu2.symm
        rw [show dNb.cells none 0 none 0 = #[.int .i64 5, .int .i64 4294967297, .int .i64 0, .bool true, .slice none 0 0, .slice none 0 0] from rfl] at C
        have HC2 := Lib.hid C
        have TD := Lib.hid (Turn.drew [] x3)
        clear C hu1 hu2
        go_cut [12] from 53 to 59 (fun v12 wx => ∃ (p : Nat) (a8 : Ads), v12 = .pointer (some ⟨p, 0, none⟩) ∧ Bx wx p a8 u2 ∧ x3.heap.size ≤ p ∧ Turn [] x3 wx)
        case first =>
          refine Ph.start [] (fun x => x.cell? ⟨b, 0, none⟩ = some (.int .i64 s0.broker) ∧ x.cell? ⟨b, 1, none⟩ = some (.int .i64 s0.nextId) ∧ x.cell? ⟨b, 2, none⟩ = some (.int .i64 s0.nextSeq) ∧ x.cell? ⟨b, 3, none⟩ = some (.int .i64 s0.tx) ∧ x.cell? ⟨b, 4, none⟩ = some (.slice none 0 0) ∧ x.cell? ⟨b, 5, none⟩ = some (.slice none 0 0) ∧ x.cell? ⟨b, 6, none⟩ = some (.slice none 0 0) ∧ x.cell? ⟨b, 7, none⟩ = some (.slice none 0 0) ∧ x.cell? ⟨b, 8, none⟩ = some (.slice none 0 0) ∧ x.cell? ⟨rb, 0, none⟩ = some (.int .i64 4) ∧ x.cell? ⟨rb, 1, none⟩ = some (.int .i64 4294967297) ∧ x.cell? ⟨rb, 2, none⟩ = some (.int .i64 0) ∧ x.cell? ⟨rb, 3, none⟩ = some (.bool false) ∧ x.cell? ⟨rb, 4, none⟩ = some (.slice none 0 0) ∧ x.cell? ⟨rb, 5, none⟩ = some (.slice ap nk cp)) (by kernel_rfl) (HSX.out _ TD.out) ?_
          intro hS
          refine Ph.take (i := 0) (d := some 53) (v := ?_) rfl (by rfl) (by kernel_rfl) (by kernel_rfl) (by kernel_rfl) (by kernel_rfl) (fun _ _ _ h => h) (by rfl) hS ?_ ?_
          rotate_left
          · intro x hx
            obtain ⟨y0, y1, y2, y3, y4, y5, y6, y7, y8, y9, y10, y11, y12, y13, y14⟩ := hx
            go_simp
            try with_reducible rfl
          simp only [Act.put, List.setIfInBounds_toArray, List.set_cons_zero, List.set_cons_succ]
          refine Ph.take (i := 1) (d := some 54) (v := ?_) rfl (by rfl) (by kernel_rfl) (by kernel_rfl) (by kernel_rfl) (by kernel_rfl) (fun _ _ _ h => h) (by rfl) hS ?_ ?_
          rotate_left
          · intro x hx
            obtain ⟨y0, y1, y2, y3, y4, y5, y6, y7, y8, y9, y10, y11, y12, y13, y14⟩ := hx
            go_simp
            try with_reducible rfl
          simp only [Act.put, List.setIfInBounds_toArray, List.set_cons_zero, List.set_cons_succ]
          refine Ph.take (i := 3) (d := some 56) (v := ?_) rfl (by rfl) (by kernel_rfl) (by kernel_rfl) (by kernel_rfl) (by kernel_rfl) (fun _ _ _ h => h) (by rfl) hS ?_ ?_
          rotate_left
          · intro x hx
            go_simp
            try with_reducible rfl
          simp only [Act.put, List.setIfInBounds_toArray, List.set_cons_zero, List.set_cons_succ]
          refine Ph.take (i := 4) (d := some 57) (v := ?_) rfl (by rfl) (by kernel_rfl) (by kernel_rfl) (by kernel_rfl) (by kernel_rfl) (fun _ _ _ h => h) (by rfl) hS ?_ ?_
          rotate_left
          · intro x hx
            obtain ⟨y0, y1, y2, y3, y4, y5, y6, y7, y8, y9, y10, y11, y12, y13, y14⟩ := hx
            go_simp
            try with_reducible rfl
          simp only [Act.put, List.setIfInBounds_toArray, List.set_cons_zero, List.set_cons_succ]
          refine Ph.take (i := 5) (d := some 58) (v := ?_) rfl (by rfl) (by kernel_rfl) (by kernel_rfl) (by kernel_rfl) (by kernel_rfl) (fun _ _ _ h => h) (by rfl) hS ?_ ?_
          rotate_left
          · intro x hx
            go_simp
            try with_reducible rfl
          simp only [Act.put, List.setIfInBounds_toArray, List.set_cons_zero, List.set_cons_succ]
          refine Ph.two (i := 2) (j := 7) (by kernel_rfl) rfl rfl ?_ ?_
          · intro K hK
            rw [if_pos (by rfl)]
            go_simp
            refine (HC1.out _ TD.out).mono ?_
            rintro e x7 ⟨a7, LW, LO, LN, rfl, rA, tA⟩
            have T7 := Lib.hid (TD.out.trans tA (by simp))
            have IS7 := Lib.hid (rA.is HM1.out.deep)
            clear rA tA HC1
            dsimp only
            refine hK _ _ (HSX.out _ T7.out) (fun hS7 => ?_)
            clear hK K
            refine Ph.two (i := 6) (j := 7) (by kernel_rfl) rfl rfl ?_ ?_
            · intro K hK
              rw [if_pos (by rfl)]
              go_simp
              refine (HC2.out _ a7 IS7.out).mono ?_
              rintro e x8 ⟨a8, LW8, LO8, LN8, rfl, r8, t8⟩
              have T8 := Lib.hid (T7.out.trans t8 (by simp))
              have R8 := Lib.hid r8
              clear r8 t8 HC2
              dsimp only
              refine hK _ _ (HSX.out _ T8.out) (fun hS8 => ?_)
              clear hK K
              refine Ph.one (i := 7) (by kernel_rfl) rfl ?_
              intro K hK
              rw [if_pos (by rfl)]
              go_simp
              refine hK _ _ (HSX.out _ (T8.out.trans (Turn.alloc [] x8 (.cells #[.int .i64 0, .int .i64 0, .int .i64 0, .int .i64 0, .slice none 0 0, .slice none 0 0, .slice none 0 0, .slice none 0 0, .slice none 0 0] 27)) (by simp))) (fun hS9 => ?_)
              clear hK K
              rw [show u2.cells a8 = #[.int .i64 u2.broker, .int .i64 u2.nextId, .int .i64 u2.nextSeq, .int .i64 u2.tx, .slice a8.m u2.ms.length a8.cm, .slice a8.w u2.waits.length a8.cw, .slice a8.e u2.ends.length a8.ce, .slice a8.o u2.open_.length a8.co, .slice a8.n u2.noes.length a8.cn] from rfl]
              refine Ph.one (i := 8) (by kernel_rfl) rfl ?_
              intro K hK
              rw [if_pos (by rfl)]
              go_simp
              have BE : Hid (Bx (x8.alloc (.cells (u2.cells a8) 27)) x8.heap.size a8 u2) := Lib.hid (Bx.new (R8.out.is HM2.out.deep))
              have TE : Hid (Turn [] x3 (x8.alloc (.cells (u2.cells a8) 27))) := Lib.hid (T8.out.trans (Turn.alloc [] x8 _) (by simp))
              rw [show u2.cells a8 = #[.int .i64 u2.broker, .int .i64 u2.nextId, .int .i64 u2.nextSeq, .int .i64 u2.tx, .slice a8.m u2.ms.length a8.cm, .slice a8.w u2.waits.length a8.cw, .slice a8.e u2.ends.length a8.ce, .slice a8.o u2.open_.length a8.co, .slice a8.n u2.noes.length a8.cn] from rfl] at BE TE
              refine hK _ _ (HSX.out _ TE.out) (fun _ => Ph.done (by kernel_rfl) ?_ _)
              clear hK K
              go_wp2_with fail
              go_meet
              exact ⟨x8.heap.size, a8, rfl, BE.out, T8.out.size, TE.out⟩
            · intro K hK
              rw [if_pos (by rfl)]
              go_simp
              have BZ : Hid (Bx (x7.alloc (.cells #[.int .i64 0, .int .i64 0, .int .i64 0, .int .i64 0, .slice none 0 0, .slice none 0 0, .slice none 0 0, .slice none 0 0, .slice none 0 0] 27)) x7.heap.size noAds sZ) := Lib.hid (Bx.new (StZ x7))
              have TA := Lib.hid (T7.out.trans (Turn.alloc [] x7 (.cells #[.int .i64 0, .int .i64 0, .int .i64 0, .int .i64 0, .slice none 0 0, .slice none 0 0, .slice none 0 0, .slice none 0 0, .slice none 0 0] 27)) (by simp))
              refine hK _ _ (HSX.out _ TA.out) (fun hS9 => ?_)
              clear hK K
              have IS7 := Lib.hid (IS7.out.still (Turn.alloc [] x7 (.cells #[.int .i64 0, .int .i64 0, .int .i64 0, .int .i64 0, .slice none 0 0, .slice none 0 0, .slice none 0 0, .slice none 0 0, .slice none 0 0] 27)))
              refine Ph.one (i := 6) (by kernel_rfl) rfl ?_
              intro K hK
              rw [if_pos (by rfl)]
              go_simp
              refine (HC2.out _ a7 IS7.out).mono ?_
              rintro e x8 ⟨a8, LW8, LO8, LN8, rfl, r8, t8⟩
              have T8 := Lib.hid (TA.out.trans t8 (by simp))
              have R8 := Lib.hid r8
              have BZ := Lib.hid (BZ.out.still t8)
              clear r8 t8 HC2
              dsimp only
              refine hK _ _ (HSX.out _ T8.out) (fun hS8 => ?_)
              clear hK K
              rw [show u2.cells a8 = #[.int .i64 u2.broker, .int .i64 u2.nextId, .int .i64 u2.nextSeq, .int .i64 u2.tx, .slice a8.m u2.ms.length a8.cm, .slice a8.w u2.waits.length a8.cw, .slice a8.e u2.ends.length a8.ce, .slice a8.o u2.open_.length a8.co, .slice a8.n u2.noes.length a8.cn] from rfl]
              have sx := bx_store BZ.out R8.out HM2.out
              have SX : Hid (Bx (((((((((x8.setCell ⟨x7.heap.size, 0, none⟩ (.int .i64 u2.broker)).setCell ⟨x7.heap.size, 1, none⟩ (.int .i64 u2.nextId)).setCell ⟨x7.heap.size, 2, none⟩ (.int .i64 u2.nextSeq)).setCell ⟨x7.heap.size, 3, none⟩ (.int .i64 u2.tx)).setCell ⟨x7.heap.size, 4, none⟩ (.slice a8.m u2.ms.length a8.cm)).setCell ⟨x7.heap.size, 5, none⟩ (.slice a8.w u2.waits.length a8.cw)).setCell ⟨x7.heap.size, 6, none⟩ (.slice a8.e u2.ends.length a8.ce)).setCell ⟨x7.heap.size, 7, none⟩ (.slice a8.o u2.open_.length a8.co)).setCell ⟨x7.heap.size, 8, none⟩ (.slice a8.n u2.noes.length a8.cn)) x7.heap.size a8 u2 ∧ Turn [x7.heap.size] x8 (((((((((x8.setCell ⟨x7.heap.size, 0, none⟩ (.int .i64 u2.broker)).setCell ⟨x7.heap.size, 1, none⟩ (.int .i64 u2.nextId)).setCell ⟨x7.heap.size, 2, none⟩ (.int .i64 u2.nextSeq)).setCell ⟨x7.heap.size, 3, none⟩ (.int .i64 u2.tx)).setCell ⟨x7.heap.size, 4, none⟩ (.slice a8.m u2.ms.length a8.cm)).setCell ⟨x7.heap.size, 5, none⟩ (.slice a8.w u2.waits.length a8.cw)).setCell ⟨x7.heap.size, 6, none⟩ (.slice a8.e u2.ends.length a8.ce)).setCell ⟨x7.heap.size, 7, none⟩ (.slice a8.o u2.open_.length a8.co)).setCell ⟨x7.heap.size, 8, none⟩ (.slice a8.n u2.noes.length a8.cn))) := Lib.hid sx
              have hh := BZ.out.head
              rw [show sZ.cells noAds = #[.int .i64 0, .int .i64 0, .int .i64 0, .int .i64 0, .slice none 0 0, .slice none 0 0, .slice none 0 0, .slice none 0 0, .slice none 0 0] from rfl] at hh
              obtain ⟨c0, c1, c2, c3, c4, c5, c6, c7, c8⟩ := nine_of hh
              have f0 : ∀ j, x8.frozen? ⟨x7.heap.size, j, none⟩ = false := fun j => unfrozen_of hh
              have HPP : Hid (x3.heap.size ≤ x7.heap.size) := Lib.hid (by first | exact Nat.le_refl _ | exact T7.out.size)
              have TE : Hid (Turn [] x3 (((((((((x8.setCell ⟨x7.heap.size, 0, none⟩ (.int .i64 u2.broker)).setCell ⟨x7.heap.size, 1, none⟩ (.int .i64 u2.nextId)).setCell ⟨x7.heap.size, 2, none⟩ (.int .i64 u2.nextSeq)).setCell ⟨x7.heap.size, 3, none⟩ (.int .i64 u2.tx)).setCell ⟨x7.heap.size, 4, none⟩ (.slice a8.m u2.ms.length a8.cm)).setCell ⟨x7.heap.size, 5, none⟩ (.slice a8.w u2.waits.length a8.cw)).setCell ⟨x7.heap.size, 6, none⟩ (.slice a8.e u2.ends.length a8.ce)).setCell ⟨x7.heap.size, 7, none⟩ (.slice a8.o u2.open_.length a8.co)).setCell ⟨x7.heap.size, 8, none⟩ (.slice a8.n u2.noes.length a8.cn))) := Lib.hid (T8.out.trans SX.out.2 (fun i hi => .inr (by have := HPP.out; simp at hi; omega)))
              clear sx hh
              refine Ph.one (i := 8) (by kernel_rfl) rfl ?_
              intro K hK
              rw [if_pos (by rfl)]
              go_simp
              refine hK _ _ (HSX.out _ TE.out) (fun _ => Ph.done (by kernel_rfl) ?_ _)
              clear hK K c0 c1 c2 c3 c4 c5 c6 c7 c8 f0
              go_wp2_with fail
              go_meet
              exact ⟨x7.heap.size, a8, rfl, SX.out.1, HPP.out, TE.out⟩
          · intro K hK
            rw [if_pos (by rfl)]
            go_simp
            have BZ : Hid (Bx (x3.drew.alloc (.cells #[.int .i64 0, .int .i64 0, .int .i64 0, .int .i64 0, .slice none 0 0, .slice none 0 0, .slice none 0 0, .slice none 0 0, .slice none 0 0] 27)) x3.heap.size noAds sZ) := Lib.hid (Bx.new (StZ x3.drew))
            have TA := Lib.hid (TD.out.trans (Turn.alloc [] x3.drew (.cells #[.int .i64 0, .int .i64 0, .int .i64 0, .int .i64 0, .slice none 0 0, .slice none 0 0, .slice none 0 0, .slice none 0 0, .slice none 0 0] 27)) (by simp))
            refine hK _ _ (HSX.out _ TA.out) (fun hS9 => ?_)
            clear hK K
            refine Ph.one (i := 2) (by kernel_rfl) rfl ?_
            intro K hK
            rw [if_pos (by rfl)]
            go_simp
            refine (HC1.out _ TA.out).mono ?_
            rintro e x7 ⟨a7, LW, LO, LN, rfl, rA, tA⟩
            have T7 := Lib.hid (TA.out.trans tA (by simp))
            have IS7 := Lib.hid (rA.is HM1.out.deep)
            have BZ := Lib.hid (BZ.out.still tA)
            clear rA tA HC1
            dsimp only
            refine hK _ _ (HSX.out _ T7.out) (fun hS7 => ?_)
            clear hK K
            refine Ph.one (i := 6) (by kernel_rfl) rfl ?_
            intro K hK
            rw [if_pos (by rfl)]
            go_simp
            refine (HC2.out _ a7 IS7.out).mono ?_
            rintro e x8 ⟨a8, LW8, LO8, LN8, rfl, r8, t8⟩
            have T8 := Lib.hid (T7.out.trans t8 (by simp))
            have R8 := Lib.hid r8
            have BZ := Lib.hid (BZ.out.still t8)
            clear r8 t8 HC2
            dsimp only
            refine hK _ _ (HSX.out _ T8.out) (fun hS8 => ?_)
            clear hK K
            rw [show u2.cells a8 = #[.int .i64 u2.broker, .int .i64 u2.nextId, .int .i64 u2.nextSeq, .int .i64 u2.tx, .slice a8.m u2.ms.length a8.cm, .slice a8.w u2.waits.length a8.cw, .slice a8.e u2.ends.length a8.ce, .slice a8.o u2.open_.length a8.co, .slice a8.n u2.noes.length a8.cn] from rfl]
            have sx := bx_store BZ.out R8.out HM2.out
            have SX : Hid (Bx (((((((((x8.setCell ⟨x3.heap.size, 0, none⟩ (.int .i64 u2.broker)).setCell ⟨x3.heap.size, 1, none⟩ (.int .i64 u2.nextId)).setCell ⟨x3.heap.size, 2, none⟩ (.int .i64 u2.nextSeq)).setCell ⟨x3.heap.size, 3, none⟩ (.int .i64 u2.tx)).setCell ⟨x3.heap.size, 4, none⟩ (.slice a8.m u2.ms.length a8.cm)).setCell ⟨x3.heap.size, 5, none⟩ (.slice a8.w u2.waits.length a8.cw)).setCell ⟨x3.heap.size, 6, none⟩ (.slice a8.e u2.ends.length a8.ce)).setCell ⟨x3.heap.size, 7, none⟩ (.slice a8.o u2.open_.length a8.co)).setCell ⟨x3.heap.size, 8, none⟩ (.slice a8.n u2.noes.length a8.cn)) x3.heap.size a8 u2 ∧ Turn [x3.heap.size] x8 (((((((((x8.setCell ⟨x3.heap.size, 0, none⟩ (.int .i64 u2.broker)).setCell ⟨x3.heap.size, 1, none⟩ (.int .i64 u2.nextId)).setCell ⟨x3.heap.size, 2, none⟩ (.int .i64 u2.nextSeq)).setCell ⟨x3.heap.size, 3, none⟩ (.int .i64 u2.tx)).setCell ⟨x3.heap.size, 4, none⟩ (.slice a8.m u2.ms.length a8.cm)).setCell ⟨x3.heap.size, 5, none⟩ (.slice a8.w u2.waits.length a8.cw)).setCell ⟨x3.heap.size, 6, none⟩ (.slice a8.e u2.ends.length a8.ce)).setCell ⟨x3.heap.size, 7, none⟩ (.slice a8.o u2.open_.length a8.co)).setCell ⟨x3.heap.size, 8, none⟩ (.slice a8.n u2.noes.length a8.cn))) := Lib.hid sx
            have hh := BZ.out.head
            rw [show sZ.cells noAds = #[.int .i64 0, .int .i64 0, .int .i64 0, .int .i64 0, .slice none 0 0, .slice none 0 0, .slice none 0 0, .slice none 0 0, .slice none 0 0] from rfl] at hh
            obtain ⟨c0, c1, c2, c3, c4, c5, c6, c7, c8⟩ := nine_of hh
            have f0 : ∀ j, x8.frozen? ⟨x3.heap.size, j, none⟩ = false := fun j => unfrozen_of hh
            have HPP : Hid (x3.heap.size ≤ x3.heap.size) := Lib.hid (by first | exact Nat.le_refl _ | exact T7.out.size)
            have TE : Hid (Turn [] x3 (((((((((x8.setCell ⟨x3.heap.size, 0, none⟩ (.int .i64 u2.broker)).setCell ⟨x3.heap.size, 1, none⟩ (.int .i64 u2.nextId)).setCell ⟨x3.heap.size, 2, none⟩ (.int .i64 u2.nextSeq)).setCell ⟨x3.heap.size, 3, none⟩ (.int .i64 u2.tx)).setCell ⟨x3.heap.size, 4, none⟩ (.slice a8.m u2.ms.length a8.cm)).setCell ⟨x3.heap.size, 5, none⟩ (.slice a8.w u2.waits.length a8.cw)).setCell ⟨x3.heap.size, 6, none⟩ (.slice a8.e u2.ends.length a8.ce)).setCell ⟨x3.heap.size, 7, none⟩ (.slice a8.o u2.open_.length a8.co)).setCell ⟨x3.heap.size, 8, none⟩ (.slice a8.n u2.noes.length a8.cn))) := Lib.hid (T8.out.trans SX.out.2 (fun i hi => .inr (by have := HPP.out; simp at hi; omega)))
            clear sx hh
            refine Ph.one (i := 8) (by kernel_rfl) rfl ?_
            intro K hK
            rw [if_pos (by rfl)]
            go_simp
            refine hK _ _ (HSX.out _ TE.out) (fun _ => Ph.done (by kernel_rfl) ?_ _)
            clear hK K c0 c1 c2 c3 c4 c5 c6 c7 c8 f0
            go_wp2_with fail
            go_meet
            exact ⟨x3.heap.size, a8, rfl, SX.out.1, HPP.out, TE.out⟩
        case rest =>
          obtain ⟨p, a8, rfl, hbx, hp, ht⟩ := hcut
          have BU := Lib.hid hbx
          have T3 := Lib.hid ht
          have BS4 := Lib.hid (BS3.out.still ht)
          clear hbx ht HC1 HC2 TD HSX PS3 RB3 BS3
          have TW := Lib.hid (TR3.out.trans T3.out (by simp))
          by_cases hnl : n ≤ l
          · have he : ev = 0 := by rw [HEV.out, if_pos hnl]
            subst he
            have h2 := HE2.out.2
            rw [if_pos hnl] at h2
            obtain ⟨hms, hid, hsq⟩ := h2
            have hc : decide ((n : Int) ≤ (l : Int)) = true := decide_eq_true (by omega)
            have hb1 := HM0.out.id1
            have hb2 := HM0.out.id2
            have hb3 := HM0.out.seq1
            have hb4 := HM0.out.seq2
            have hw1 : IntKind.i64.wrap (s0.nextId + (n : Int)) = s0.nextId + (n : Int) := by rw [IntKind.wrap_i64]; omega
            have hw2 : IntKind.i64.wrap (s0.nextSeq + (n : Int)) = s0.nextSeq + (n : Int) := by rw [IntKind.wrap_i64]; omega
            have C := may_calls BU.out.is HM2.out.fit
            rw [HE2.out.1, show u2.cells a8 = #[.int .i64 u2.broker, .int .i64 u2.nextId, .int .i64 u2.nextSeq, .int .i64 u2.tx, .slice a8.m u2.ms.length a8.cm, .slice a8.w u2.waits.length a8.cw, .slice a8.e u2.ends.length a8.ce, .slice a8.o u2.open_.length a8.co, .slice a8.n u2.noes.length a8.cn] from rfl, hms, hid, hsq] at C
            have C1 := Lib.hid C
            have hh := BU.out.head
            rw [show u2.cells a8 = #[.int .i64 u2.broker, .int .i64 u2.nextId, .int .i64 u2.nextSeq, .int .i64 u2.tx, .slice a8.m u2.ms.length a8.cm, .slice a8.w u2.waits.length a8.cw, .slice a8.e u2.ends.length a8.ce, .slice a8.o u2.open_.length a8.co, .slice a8.n u2.noes.length a8.cn] from rfl, hms, hid, hsq] at hh
            have HHU := Lib.hid hh
            have hg := BS4.out.head
            rw [HCS.out] at hg
            have HHS := Lib.hid hg
            obtain ⟨c0, c1, c2, c3, c4, c5, c6, c7, c8⟩ := nine_of hg
            obtain ⟨e0, e1, e2, e3, e4, e5, e6, e7, e8⟩ := nine_of hh
            clear hh hg C hms hid hsq hb1 hb2 hb3 hb4 HM0 HM1 HM2 HIS HE2
            go_wp2_with fail
            refine C1.out.mono ?_
            rintro e x5 ⟨rfl, t5⟩
            clear c0 c1 c2 c3 c4 c5 c6 c7 c8 e0 e1 e2 e3 e4 e5 e6 e7 e8
            obtain ⟨c0, c1, c2, c3, c4, c5, c6, c7, c8⟩ := nine_of (t5.heap HHS.out (by simp))
            obtain ⟨e0, e1, e2, e3, e4, e5, e6, e7, e8⟩ := nine_of (t5.heap HHU.out (by simp))
            have T5 := Lib.hid (TW.out.trans t5 (by simp))
            clear t5 C1
            go_wp2_with fail
            go_ret
            exact ⟨ret_bool (by first | rfl | simp), T5.out.belowAll⟩
          · have he : ev = 5 := by rw [HEV.out, if_neg hnl]
            subst he
            have h2 := HE2.out.2
            rw [if_neg hnl] at h2
            have hu := (eqStB_iff _ _).1 h2
            subst hu
            have hc : decide ((n : Int) ≤ (l : Int)) = false := decide_eq_false (by omega)
            have C := refEq_nil u2 a8 noAds (by rw [HS0.out]; exact nb_nil _ _) wc
            rw [HCS.out, show u2.cells a8 = #[.int .i64 u2.broker, .int .i64 u2.nextId, .int .i64 u2.nextSeq, .int .i64 u2.tx, .slice a8.m u2.ms.length a8.cm, .slice a8.w u2.waits.length a8.cw, .slice a8.e u2.ends.length a8.ce, .slice a8.o u2.open_.length a8.co, .slice a8.n u2.noes.length a8.cn] from rfl] at C
            have C1 := Lib.hid C
            have hh := BU.out.head
            rw [show u2.cells a8 = #[.int .i64 u2.broker, .int .i64 u2.nextId, .int .i64 u2.nextSeq, .int .i64 u2.tx, .slice a8.m u2.ms.length a8.cm, .slice a8.w u2.waits.length a8.cw, .slice a8.e u2.ends.length a8.ce, .slice a8.o u2.open_.length a8.co, .slice a8.n u2.noes.length a8.cn] from rfl] at hh
            have hg := BS4.out.head
            rw [HCS.out] at hg
            obtain ⟨c0, c1, c2, c3, c4, c5, c6, c7, c8⟩ := nine_of hg
            obtain ⟨e0, e1, e2, e3, e4, e5, e6, e7, e8⟩ := nine_of hh
            clear hh hg C h2
            go_wp2_with fail
            refine C1.out.mono ?_
            rintro e x5 ⟨rfl, t5⟩
            have T5 := Lib.hid (TW.out.trans t5 (by simp))
            clear t5 C1
            go_wp2_with fail
            go_ret
            exact ⟨rfl, T5.out.belowAll⟩

end Go.Proofs.YtjhlfjgfohoflaaGreat

/-
  The law 'postillionlaw10.StoreNumbers' answers true at every input, and each argument reads behind the call as it read before: for every input, no condition; the frame round the walk 'storeNumbers_walk'.
-/
namespace Go.Proofs.YtjhlfjgfohoflaaGreat.storeNumbers
open Go.ChangeShapes Go.WideShapes Go.ChangeAt Go.RowKit
open Go.ChangeMaps (open_string shut_string)
set_option linter.unusedVariables false

theorem own : ownKnob Tryz.prog.godebug = none := by kernel_rfl
theorem laidOut : laidOutB Tryz.prog = true := closed.p_laidOutB

set_option maxRecDepth 100000 in
theorem lifted (os : Os) (started : os.Started) (H : Type) (enc : TypeId × Value → H) :
    ReturnsInHanded {} Tryz.checked os 6 .any (Rows.storeNumbersSpec.pre6 enc Tryz.prog Tryz.f6 Rows.storeNumbersRow.domain false) (Rows.storeNumbersSpec.post enc Tryz.prog Tryz.f6 false true false false) := by
  refine returnsInHanded_of_change (C := Tryz.checked) own started (by kernel_rfl) Tryz.func6
    (ChangeSpec.witness6 (enc := enc) (C := Tryz.checked) false ⟨#[], #[.int .i64 0, .int .i64 0, .bool false], []⟩ 8 (by kernel_rfl) (by kernel_rfl) (by kernel_rfl) (by kernel_rfl)) ?_
  intro W base args ds gs before hval0 hW hcnd _
  have hval : ∀ (j : Nat) t v, Tryz.f6.params[j]? = some t → args[j]? = some v → Value.okWide Tryz.prog W .any base t v := hval0
  have hW' := hW
  obtain ⟨p, q, hA0, hV, rfl, hfz, hnd⟩ := hW
  have hA : DataW.TrodAll enc Tryz.prog W 0 (fun _ => true) true Tryz.f6.params.toList args.toList ds p := hA0
  rw [Tryz.params6] at hA hval
  obtain ⟨v0, vs0, d0, ds0, p0, q0, hargs, rfl, rfl, h0, r0⟩ := trodAll_cons hA
  obtain ⟨v1, vs1, d1, ds1, p1, q1, rfl, rfl, rfl, h1, r1⟩ := trodAll_cons r0
  obtain ⟨v2, vs2, d2, ds2, p2, q2, rfl, rfl, rfl, h2, r2⟩ := trodAll_cons r1
  obtain ⟨rfl, rfl, rfl⟩ := trodAll_nil r2
  obtain rfl : args = #[v0, v1, v2] := by cases args; simp_all
  obtain ⟨rfl, rfl⟩ := trodVars_none hV
  obtain ⟨a0, rfl, rfl, rfl, w0⟩ := open_int Tryz.underlying2 (hval 0 2 v0 rfl rfl) h0
  obtain ⟨a1, rfl, rfl, rfl, w1⟩ := open_int Tryz.underlying3 (hval 1 3 v1 rfl rfl) h1
  obtain ⟨a2, rfl, rfl, rfl⟩ := open_bool Tryz.underlying4 (hval 2 4 v2 rfl rfl) h2
  clear hA0 hval0
  refine (storeNumbers_walk (w := W) a0 w0 a1 w1 a2).mono fun e W' ⟨he, bel⟩ => ?_
  subst he
  exact ⟨_, rfl, _, _, _, [], _, [], hW', trodAll_mk1 (shut_bool Tryz.underlying4 _), (trodAll_cons_mk (shut_int Tryz.underlying2 w0) (trodAll_cons_mk (shut_int Tryz.underlying3 w1) (trodAll_cons_mk (shut_bool Tryz.underlying4 a2) trodAll_mk0))), rfl, bel.frame _, fun h => by cases h⟩

theorem closed0 : (Rows.storeNumbersRow.wf (OpenSpec.ofChange Rows.storeNumbersSpec) : Bool) = true := by kernel_rfl

theorem closed3 : (Tryz.f6.params.all (Tryz.prog.readableRec ·) : Bool) = true := by kernel_rfl

theorem closed4 : (namedTie Tryz.prog Rows.storeNumbersRow.named Rows.storeNumbersSpec.vars : Bool) = true := by kernel_rfl

theorem closed5 : ((Rows.storeNumbersRow.stops == []) : Bool) = true := by kernel_rfl

theorem closed7 : ((Rows.storeNumbersRow.knobs == []) : Bool) = true := by kernel_rfl

theorem closed9 : ((Rows.storeNumbersRow.inPlace == Tryz.prog.inPlace 6) : Bool) = true := by kernel_rfl

theorem closed10 : ((Rows.storeNumbersRow.unfollowed == Tryz.prog.unfollowed 6) : Bool) = true := by kernel_rfl

theorem closed11 : ((Rows.storeNumbersRow.recurses == Tryz.prog.recurses 6) : Bool) = true := by kernel_rfl

theorem closed12 : ((Rows.storeNumbersRow.named == Tryz.prog.varsNamed 6) : Bool) = true := by kernel_rfl

theorem closed13 : ((Rows.storeNumbersRow.maps == (Tryz.f6.params.toList ++ Rows.storeNumbersSpec.plain.varTypes Tryz.prog).any (Tryz.prog.mapsRec ·)) : Bool) = true := by kernel_rfl

theorem closed14 : ((Rows.storeNumbersRow.ifaces == (Tryz.f6.params.toList ++ Rows.storeNumbersSpec.plain.varTypes Tryz.prog).any (Tryz.prog.ifacesRec ·)) : Bool) = true := by kernel_rfl

theorem closed15 : ((Rows.storeNumbersRow.mapsOut == Tryz.prog.mapsAmong Tryz.f6.resultTypes.toList) : Bool) = true := by kernel_rfl

theorem closed16 : ((Rows.storeNumbersRow.loops == (Tryz.f6.params.toList ++ Rows.storeNumbersSpec.plain.varTypes Tryz.prog).any (Tryz.prog.loopsFrom ·)) : Bool) = true := by kernel_rfl

theorem closed17 : ((Rows.storeNumbersRow.wideKeys == (Tryz.f6.params.toList ++ Rows.storeNumbersSpec.plain.varTypes Tryz.prog ++ Tryz.f6.resultTypes.toList).any (Tryz.prog.wideKeysFrom ·)) : Bool) = true := by kernel_rfl

theorem closed18 : (Rows.storeNumbersSpec.vars.all (Tryz.prog.varReadable ·) : Bool) = true := by kernel_rfl

theorem closed19 : (Tryz.f6.resultTypes.all (fun t => Tryz.prog.readableRec t && decide (t < Tryz.prog.types.size)) : Bool) = true := by kernel_rfl

theorem closed20 : ((Rows.storeNumbersRow.ifacesOut == Tryz.f6.resultTypes.toList.any (Tryz.prog.ifacesRec ·)) : Bool) = true := by kernel_rfl

theorem closed21 : ((Rows.storeNumbersRow.loopsOut == Tryz.f6.resultTypes.toList.any (Tryz.prog.loopsFrom ·)) : Bool) = true := by kernel_rfl

theorem closed22 : ((Rows.storeNumbersRow.plainKeys == Tryz.prog.plainKeys) : Bool) = true := by show (_ == _) = true; rw [closed.plainKeys_is]; kernel_rfl

theorem closed23 : (Rows.storeNumbersRow.shortTexts.isNone : Bool) = true := by kernel_rfl

theorem closed26 : ((Rows.storeNumbersRow.lifted == Tryz.prog.liftsFinal) : Bool) = true := by show (_ == _) = true; rw [closed.lifted_is]; kernel_rfl

theorem closed27 : ((Tryz.prog.make == some Rows.storeNumbersRow.make) : Bool) = true := by show (_ == _) = true; rw [closed.make_is]; kernel_rfl

theorem closed28 : ((Rows.storeNumbersRow.kinds == (if Rows.storeNumbersRow.domain.isEmpty then [] else Tryz.f6.params.toList.map fun t => match Tryz.prog.underlying t with | some (.int k) => some k | _ => none)) : Bool) = true := by kernel_rfl

theorem closed29 : ((Rows.storeNumbersRow.pinned == Rows.storeNumbersRow.pinnedBy) : Bool) = true := by kernel_rfl

theorem closed30 : ((Rows.storeNumbersRow.veiled == (Tryz.f6.params.toList ++ Rows.storeNumbersSpec.plain.varTypes Tryz.prog ++ Tryz.f6.resultTypes.toList).any (Tryz.prog.veiledRec ·)) : Bool) = true := by kernel_rfl

theorem closed31 : (Rows.storeNumbersRow.veiledFits Tryz.prog Tryz.f6.params.toList (Tryz.f6.params.toList ++ Rows.storeNumbersSpec.plain.varTypes Tryz.prog ++ Tryz.f6.resultTypes.toList) : Bool) = true := by kernel_rfl

set_option maxRecDepth 100000 in
theorem closedAll : joinedFacts Tryz.prog 6 Tryz.f6 Rows.storeNumbersSpec Rows.storeNumbersRow = true :=
  joinMk.joined_mk closed0 closed.p_laidOutB closed.p_mapsRowed closed3 closed4 closed5 closed.p_stops closed7 closed.p_stopKnobs closed9 closed10 closed11 closed12 closed13 closed14 closed15 closed16 closed17 closed18 closed19 closed20 closed21 closed22 closed23 closed.p_stopsHeard closed.p_mayEnter closed26 closed27 closed28 closed29 closed30 closed31

theorem over : Rows.storeNumbersRow.holds Tryz.pinned (OpenSpec.ofChange Rows.storeNumbersSpec) :=
  OpenClaim.holds_of_wide 6 Tryz.f6 rfl rfl rfl rfl rfl rfl rfl ⟨rfl, rfl, rfl, rfl, rfl⟩ rfl rfl rfl rfl rfl (by kernel_rfl) Tryz.func6 closedAll
    (of_decide_eq_true (by kernel_rfl)) (by unfold Func.isWrapper; first | (rw [if_pos (by decide +kernel)]; kernel_rfl) | (rw [if_neg (by decide +kernel)]; exact ⟨rfl, rfl⟩))
    (fun os started H enc _ => lifted os started H enc)

/-- The statement. -/
theorem proved : Rows.StoreNumbersSaid := over
end Go.Proofs.YtjhlfjgfohoflaaGreat.storeNumbers
