/-
  A region that draws its order, of loads, calls and of what makes memory, and whose last operations are stores: until the first store comes up a condition holds of the world, under which the loads may be taken first.
-/
import Derived.OrdersHeld
import Derived.StillTail
import Derived.Deep.RegionHeld3
namespace Go.Proofs.YtjdpglmphacfjaaGreatDoor
open Go

section
variable {P : Program} {md : Region.Mode} {ops : Array Oper} {Q : Exit → Act → World → Prop} {S : World → Prop} {late : List Nat}

/-- Whatever comes up next; S holds behind it, unless it is one of the late ones. -/
def Ph (P : Program) (md : Region.Mode) (ops : Array Oper) (Q : Exit → Act → World → Prop) (S : World → Prop) (late : List Nat) : Nat → Array Bool → Act → World → Prop
  | 0, L, a, w => Region.ready md ops L = [] ∧ Q .normal a w
  | k + 1, L, a, w => (Region.ready md ops L = [] → Q .normal a w) ∧ ∀ j, j ∈ Region.ready md ops L → wpOp P ops Q j (fun b x => (j ∈ late ∨ S x) ∧ Ph P md ops Q S late k (L.setIfInBounds j true) b x) a w

theorem Ph.any : ∀ (k : Nat) (L : Array Bool) (a : Act) (w : World), Ph P md ops Q S late k L a w → wpAny P md ops Q k L a w
  | 0, _, _, _, h => h
  | k + 1, _, _, _, h => ⟨h.1, fun j hj => wpOp_mono (fun b x hb => Ph.any k _ b x hb.2) (h.2 j hj)⟩

/-- Who waits for i does not come up ahead of it. -/
theorem not_both {i j : Nat} {L : Array Bool} (hw : Region.waitsFor md ops j i = true) (hi : i ∈ Region.ready md ops L) : j ∉ Region.ready md ops L := by
  intro hj
  obtain ⟨oj, hoj, e, he, hb, hei⟩ := Region.waitsFor_spec hw
  obtain ⟨-, o2, ho2, hall⟩ := mem_ready.1 hj
  rw [hoj] at ho2
  cases ho2
  have h1 := hall e he hb
  have h0 := (mem_ready.1 hi).1
  rw [hei] at h1
  by_cases hlt : i < L.size
  · simp [hlt] at h0 h1
    rw [h0] at h1
    cases h1
  · simp [Array.getElem?_eq_none (by omega : L.size ≤ i)] at h1

theorem Ph.early {i : Nat} {oi : Oper} {v : Value} (hi : ops[i]? = some oi) (hs : Region.noSelect ops = true) (hw : (late.all fun j => Region.waitsFor md ops j i) = true)
    (hQ : ∀ c a w, Q (.panic c) (a.put oi.dst v) w → Q (.panic c) a w) : ∀ (k : Nat) (L : Array Bool) (a : Act) (w : World),
    (∀ j oj, ops[j]? = some oj → j ≠ i → L.getD j true = false → (∀ e ∈ oj.after, Region.binds md e = true → e.on ≠ i) → oi.apart ops oj = true) →
    i ∈ Region.ready md ops L → YieldsIf P ops S oi v a → S w → Ph P md ops Q S late k (L.setIfInBounds i true) (a.put oi.dst v) w → Ph P md ops Q S late (k + 1) L a w := by
  have hsel := Region.noSelect_spec hs
  intro k
  induction k with
  | zero =>
    intro L a w _ hr hy hS H
    constructor
    · intro h
      rw [h] at hr
      cases hr
    · intro j hj
      have hji : j = i := by
        false_or_by_contra
        rename_i hne
        have h1 := ready_mono hj hne
        rw [H.1] at h1
        cases h1
      subst hji
      exact hy.wpOp hi hS ⟨.inr hS, H⟩
  | succ k ih =>
    intro L a w hfree hr hy hS H
    constructor
    · intro h
      rw [h] at hr
      cases hr
    · intro j hj
      by_cases hji : j = i
      · subst hji
        exact hy.wpOp hi hS ⟨.inr hS, H⟩
      · have hjn : j ∉ late := fun e => not_both (List.all_eq_true.1 hw j e) hr hj
        obtain ⟨hun, oj, hoj, hall⟩ := mem_ready.1 hj
        have hno : ∀ e ∈ oj.after, Region.binds md e = true → e.on ≠ i := by
          intro e he hb hei
          refine not_both (j := j) ?_ hr hj
          unfold Region.waitsFor
          rw [hoj]
          exact Array.any_eq_true'.2 ⟨e, he, by simp [hb, hei]⟩
        have h2 := wpOp_putIf hoj (hfree j oj hoj hji hun hno) (fun cs b => hsel i oi cs b hi) (fun cs b => hsel j oj cs b hoj) hQ hy (H.2 j (ready_mono hj hji))
        refine wpOp_mono (fun b x hb => ?_) h2
        obtain ⟨hy2, hS2, hP2⟩ := hb
        have hSx : S x := hS2.resolve_left hjn
        refine ⟨.inr hSx, ih _ b x ?_ (ready_mono hr (Ne.symm hji)) hy2 hSx ?_⟩
        · intro m om hm hmi hmu hmo
          refine hfree m om hm hmi ?_ hmo
          by_cases hjm : j = m
          · rw [← hjm]; exact hun
          · rwa [getD_set_ne true hjm] at hmu
        · rwa [Array.setIfInBounds_comm _ _ hji]

/-- A load is taken first. -/
theorem Ph.take {i k : Nat} {oi : Oper} {d : Option Tmp} {v : Value} {L : Array Bool} {a : Act} {w : World} (hi : ops[i]? = some oi) (hd : oi.dst = d) (hs : Region.noSelect ops = true) (hw : (late.all fun j => Region.waitsFor md ops j i) = true) (hf : Region.free md ops L i = true)
    (hr : (Region.ready md ops L).contains i = true) (hQ : ∀ c a w, Q (.panic c) (a.put d v) w → Q (.panic c) a w) (hwt : Region.wanted oi (yielded ops a.tmps) = true) (hS : S w)
    (hy : ∀ x, S x → (execOp a.eval oi).run P x = .ok (.value v) x)
    (h : Ph P md ops Q S late k (L.setIfInBounds i true) (a.put d v) w) : Ph P md ops Q S late (k + 1) L a w := by
  subst hd
  exact Ph.early hi hs hw hQ k L a w (Region.free_spec hi hf) (by simpa using hr) (.inl ⟨hwt, hy⟩) hS h

/-- The one that comes up. -/
theorem Ph.one {i k : Nat} {oi : Oper} {L : Array Bool} {a : Act} {w : World} (hr : Region.ready md ops L = [i]) (hi : ops[i]? = some oi)
    (h : ∀ K : Act → World → Prop, (∀ b x, S x → (S x → Ph P md ops Q S late k (L.setIfInBounds i true) b x) → K b x) → if Region.wanted oi (yielded ops a.tmps) = true then Oper.wp P oi a w K Q else K (a.put oi.dst undef) w) :
    Ph P md ops Q S late (k + 1) L a w := by
  refine ⟨fun h0 => (by rw [hr] at h0; cases h0), fun j hj => ?_⟩
  rw [hr] at hj
  have hji : j = i := by simpa using hj
  subst hji
  exact wpOp_step hi (fun K hK => h K (fun b x hS hP => hK b x ⟨.inr hS, hP hS⟩))

/-- A late one. -/
theorem Ph.tardy {i k : Nat} {oi : Oper} {L : Array Bool} {a : Act} {w : World} (hr : Region.ready md ops L = [i]) (hl : late.contains i = true) (hi : ops[i]? = some oi)
    (h : ∀ K : Act → World → Prop, (∀ b x, Ph P md ops Q S late k (L.setIfInBounds i true) b x → K b x) → if Region.wanted oi (yielded ops a.tmps) = true then Oper.wp P oi a w K Q else K (a.put oi.dst undef) w) :
    Ph P md ops Q S late (k + 1) L a w := by
  refine ⟨fun h0 => (by rw [hr] at h0; cases h0), fun j hj => ?_⟩
  rw [hr] at hj
  have hji : j = i := by simpa using hj
  subst hji
  exact wpOp_step hi (fun K hK => h K (fun b x hP => hK b x ⟨.inl (by simpa using hl), hP⟩))

/-- All have come up. -/
theorem Ph.done {L : Array Bool} {a : Act} {w : World} (hr : Region.ready md ops L = []) (h : Q .normal a w) : ∀ k, Ph P md ops Q S late k L a w
  | 0 => ⟨hr, h⟩
  | _ + 1 => ⟨fun _ => h, fun j hj => by rw [hr] at hj; cases hj⟩

/-- The beginning. -/
theorem Ph.start {id : Nat} {a : Act} {w : World} (late : List Nat) (S : World → Prop) (hm : P.follows .mixedOrders = true) (hS : S w.drew)
    (h : S w.drew → Ph P .any ops Q S late ops.size (Array.replicate ops.size false) a w.drew) : (Code.region id ops true).wp P Q a w :=
  wp_region_any hm (Ph.any _ _ _ _ (h hS))

end

end Go.Proofs.YtjdpglmphacfjaaGreatDoor
