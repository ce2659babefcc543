/-
  Of the texts StInv StLay StGo StOps StC, in build order, each as it was built alone.
-/
import Derived.Test.YtjhlfjgfohoflaaGreatPkAD
import Derived.Test.YtjhlfjgfohoflaaGreatPkAB
import Derived.Test.YtjhlfjgfohoflaaGreatPkAC

/-
  What a record makes of a state that may be, may be: there is room for what is coming.
-/
namespace Go.Proofs.YtjhlfjgfohoflaaGreat

theorem keyB_ins {α : Type} {key : α → Int} {x : α} {l : List α} {t : Int} (h : keyB key l t = false) (hx : key x ≠ t) : keyB key (insK key x l) t = false := by
  rw [keyB_not] at h ⊢
  intro y hy
  rcases insK_mem.1 hy with rfl | hy
  · exact hx
  · exact h y hy

theorem keyB_rem {α : Type} {key : α → Int} {l : List α} {t u : Int} (h : keyB key l t = false) : keyB key (remK key u l) t = false := by
  rw [keyB_not] at h ⊢
  intro y hy
  exact h y (remK_sub.mem hy)

theorem left_spec {t : Int} {yes : Bool} : ∀ {l : List MsgV} {m : MsgV}, m ∈ left t yes l → ∃ m0 ∈ l, (m = m0 ∧ m0.by_ ≠ t) ∨ (yes = false ∧ m = back m0 ∧ m0.by_ = t)
  | [], m, h => by simp [left] at h
  | x :: l, m, h => by
    unfold left at h
    by_cases hx : x.by_ = t
    · rw [if_pos hx] at h
      cases yes with
      | true =>
        rw [if_pos rfl] at h
        obtain ⟨m0, h0, h1⟩ := left_spec h
        exact ⟨m0, by simp [h0], h1⟩
      | false =>
        rw [if_neg (by simp)] at h
        rcases List.mem_cons.1 h with rfl | h
        · exact ⟨x, by simp, .inr ⟨rfl, rfl, hx⟩⟩
        · obtain ⟨m0, h0, h1⟩ := left_spec h
          exact ⟨m0, by simp [h0], h1⟩
    · rw [if_neg hx] at h
      rcases List.mem_cons.1 h with rfl | h
      · exact ⟨m, by simp, .inl ⟨rfl, hx⟩⟩
      · obtain ⟨m0, h0, h1⟩ := left_spec h
        exact ⟨m0, by simp [h0], h1⟩

theorem left_keys {β : Type} (f : MsgV → β) (hf : ∀ m, f (back m) = f m) (t : Int) (yes : Bool) : ∀ l : List MsgV, ((left t yes l).map f).Sublist (l.map f)
  | [] => by simp [left]
  | x :: l => by
    unfold left
    by_cases hx : x.by_ = t
    · rw [if_pos hx]
      cases yes with
      | true =>
        rw [if_pos rfl]
        exact (left_keys f hf t true l).cons _
      | false =>
        rw [if_neg (by simp), List.map_cons, List.map_cons, hf]
        exact (left_keys f hf t false l).cons_cons _
    · rw [if_neg hx]
      exact (left_keys f hf t yes l).cons_cons _

theorem left_len (t : Int) (yes : Bool) (l : List MsgV) : (left t yes l).length ≤ l.length := by
  have := (left_keys (fun m => m.id) (fun _ => rfl) t yes l).length_le
  simpa using this

theorem come_len (b : Int) : ∀ (i q : Int) (l : List (ByteArray × ByteArray)), (come b i q l).length = l.length
  | _, _, [] => rfl
  | i, q, _ :: l => by simp [come, come_len b (i + 1) (q + 1) l]

theorem makeZ_at {b i : Int} (hb : brokerB b = true) (h1 : 1 ≤ i) (h2 : i < 4294967296) : makeZ b i = b * 4294967296 + i := by
  unfold makeZ
  rw [if_pos ⟨hb, h1, h2⟩]

theorem come_spec {b : Int} (hb : brokerB b = true) : ∀ {l : List (ByteArray × ByteArray)} {i q : Int}, 1 ≤ i → i + (l.length : Int) ≤ 4294967296 → ∀ m ∈ come b i q l, q ≤ m.seq ∧ m.seq < q + (l.length : Int) ∧ b * 4294967296 + i ≤ m.id ∧ m.id < b * 4294967296 + i + (l.length : Int) ∧ (m.queue, m.body) ∈ l ∧ m.count = 0 ∧ m.by_ = 0
  | [], _, _, _, _, m, h => by simp [come] at h
  | p :: l, i, q, h1, h2, m, h => by
    simp only [List.length_cons, Int.natCast_add, Int.natCast_one] at h2 ⊢
    unfold come at h
    rcases List.mem_cons.1 h with rfl | h
    · rw [makeZ_at hb h1 (by omega)]
      refine ⟨by dsimp only; omega, by dsimp only; omega, by dsimp only; omega, by dsimp only; omega, by simp, rfl, rfl⟩
    · obtain ⟨a1, a2, a3, a4, a5, a6, a7⟩ := come_spec hb (i := i + 1) (q := q + 1) (by omega) (by omega) m h
      exact ⟨by omega, by omega, by omega, by omega, List.mem_cons_of_mem _ a5, a6, a7⟩

theorem come_rising {b : Int} (hb : brokerB b = true) : ∀ {l : List (ByteArray × ByteArray)} {i q : Int}, 1 ≤ i → i + (l.length : Int) ≤ 4294967296 → Rising MsgV.seq (come b i q l) ∧ (come b i q l).Pairwise (fun a c => a.id ≠ c.id)
  | [], _, _, _, _ => by simp [come]
  | p :: l, i, q, h1, h2 => by
    simp only [List.length_cons, Int.natCast_add, Int.natCast_one] at h2
    unfold come
    have hs := come_spec hb (l := l) (i := i + 1) (q := q + 1) (by omega) (by omega)
    obtain ⟨r1, r2⟩ := come_rising hb (l := l) (i := i + 1) (q := q + 1) (by omega) (by omega)
    refine ⟨List.pairwise_cons.2 ⟨fun m hm => ?_, r1⟩, List.pairwise_cons.2 ⟨fun m hm => ?_, r2⟩⟩
    · have := (hs m hm).1
      dsimp only
      omega
    · have := (hs m hm).2.2.1
      dsimp only
      rw [makeZ_at hb h1 (by omega)]
      omega

theorem home_of {b t : Int} (hb : brokerB b = true) (h1 : b * 4294967296 < t) (h2 : t < b * 4294967296 + 4294967296) : homeZ t = b := by
  have hb := of_decide_eq_true hb
  exact (homeZ_is hb.1 hb.2).2 ⟨h1, h2⟩

theorem endS_may {s : StV} {t : Int} {yes : Bool} {l : List (ByteArray × ByteArray)} (h : MayP s) (ht : 0 < homeZ t) (hn : keyB EndV.tid s.ends t = false) (he : s.ends.length < 2000) (hl : yes = true → ∀ p ∈ l, putB p = true)
    (hr : yes = true → s.ms.length + l.length ≤ 72 ∧ s.nextId + (l.length : Int) ≤ 4294967296 ∧ s.nextSeq + (l.length : Int) ≤ 1099511627776) : MayP (endS s t yes l) := by
  have hd : ∃ d : Nat, d = (if yes = true then l.length else 0) := ⟨_, rfl⟩
  obtain ⟨d, hd⟩ := hd
  have hdi : (if yes = true then (l.length : Int) else 0) = (d : Int) := by rw [hd]; split <;> simp
  have hroom : s.ms.length + d ≤ 72 ∧ s.nextId + (d : Int) ≤ 4294967296 ∧ s.nextSeq + (d : Int) ≤ 1099511627776 := by
    rw [hd]
    split
    · exact hr ‹_›
    · have := h.lms; have := h.id2; have := h.seq2
      omega
  obtain ⟨c, hc⟩ : ∃ c, c = (if yes = true then come s.broker s.nextId s.nextSeq l else []) := ⟨_, rfl⟩
  have hcl : c.length = d := by rw [hc, hd]; split <;> simp [come_len]
  have hcs : ∀ m ∈ c, s.nextSeq ≤ m.seq ∧ m.seq < s.nextSeq + (d : Int) ∧ s.broker * 4294967296 + s.nextId ≤ m.id ∧ m.id < s.broker * 4294967296 + s.nextId + (d : Int) ∧ putB (m.queue, m.body) = true ∧ m.count = 0 ∧ m.by_ = 0 := by
    intro m hm
    rw [hc] at hm
    by_cases hy : yes = true
    · rw [if_pos hy] at hm hd
      subst hd
      obtain ⟨a1, a2, a3, a4, a5, a6, a7⟩ := come_spec h.broker h.id1 hroom.2.1 m hm
      exact ⟨a1, a2, a3, a4, hl hy _ a5, a6, a7⟩
    · rw [if_neg hy] at hm
      cases hm
  have hcr : Rising MsgV.seq c ∧ c.Pairwise (fun a b => a.id ≠ b.id) := by
    rw [hc]
    by_cases hy : yes = true
    · rw [if_pos hy]
      rw [if_pos hy] at hd
      subst hd
      exact come_rising h.broker h.id1 hroom.2.1
    · rw [if_neg hy]
      simp
  have hms : (endS s t yes l).ms = left t yes s.ms ++ c := by rw [hc]; rfl
  have hni : (endS s t yes l).nextId = s.nextId + (d : Int) := by rw [← hdi]; rfl
  have hns : (endS s t yes l).nextSeq = s.nextSeq + (d : Int) := by rw [← hdi]; rfl
  have hen : (endS s t yes l).ends = insK EndV.tid ⟨t, yes⟩ s.ends := rfl
  have hll := left_len t yes s.ms
  have hid1 := h.id1
  have hseq1 := h.seq1
  have hb := of_decide_eq_true h.broker
  have hout : ∀ u : Int, u ≠ t → keyB EndV.tid s.ends u = false → keyB EndV.tid (insK EndV.tid ⟨t, yes⟩ s.ends) u = false := fun u hu h0 => keyB_ins h0 (fun e => hu e.symm)
  refine ⟨h.broker, by rw [hni]; omega, by rw [hni]; omega, by rw [hns]; omega, by rw [hns]; omega, h.tx1, h.tx2, by rw [hms, List.length_append]; omega, Nat.le_trans remK_len_le h.lwaits, by rw [hen, insK_len]; omega, Nat.le_trans remK_len_le h.lopen, h.lnoes, ?_, ?_, ?_, ?_, ?_, ?_, remK_rising h.waitsR, ?_, remK_rising h.openR, ?_, h.noesR⟩
  · intro m hm
    rw [hms] at hm
    unfold msgP
    rw [hni, hns, hen]
    rcases List.mem_append.1 hm with hm | hm
    · obtain ⟨m0, h0, hcase⟩ := left_spec hm
      obtain ⟨p1, p2, p3, p4, p5, p6, p7, p8, p9⟩ := h.ms m0 h0
      rcases hcase with ⟨rfl, hby⟩ | ⟨-, rfl, hby⟩
      · refine ⟨p1, by omega, p3, ?_, p5, p6, p7, p8, ?_⟩
        · show m.id - s.broker * 4294967296 < _
          omega
        · rcases p9 with p9 | ⟨p9, p10⟩
          · exact .inl p9
          · exact .inr ⟨p9, hout _ hby p10⟩
      · refine ⟨p1, by show m0.seq < _; omega, p3, ?_, p5, p6, ?_, ?_, .inl rfl⟩
        · show m0.id - s.broker * 4294967296 < _
          omega
        · show 0 ≤ min 1000 (m0.count + 1)
          omega
        · show min 1000 (m0.count + 1) ≤ 1000
          omega
    · obtain ⟨a1, a2, a3, a4, a5, a6, a7⟩ := hcs m hm
      unfold putB at a5
      simp only [Bool.and_eq_true] at a5
      refine ⟨by omega, a2, (show homeZ m.id = s.broker from home_of h.broker (by omega) (by omega)), ?_, a5.1, a5.2, by omega, by omega, .inl a7⟩
      show m.id - s.broker * 4294967296 < _
      omega
  · rw [hms]
    refine List.pairwise_append.2 ⟨?_, hcr.1, fun a ha c hc => ?_⟩
    · have := List.pairwise_map.1 ((List.pairwise_map (R := fun a b : Int => a < b) (f := MsgV.seq)).2 h.seqs |>.sublist (left_keys MsgV.seq (fun _ => rfl) t yes s.ms))
      exact this
    · obtain ⟨m0, h0, hcase⟩ := left_spec ha
      have h1 := (h.ms m0 h0).2.1
      have h2 := (hcs c hc).1
      have h3 : a.seq = m0.seq := by
        rcases hcase with ⟨rfl, -⟩ | ⟨-, rfl, -⟩ <;> rfl
      omega
  · rw [hms]
    refine List.pairwise_append.2 ⟨?_, hcr.2, fun a ha c hc => ?_⟩
    · have := List.pairwise_map.1 ((List.pairwise_map (R := fun a b : Int => a ≠ b) (f := MsgV.id)).2 h.ids |>.sublist (left_keys MsgV.id (fun _ => rfl) t yes s.ms))
      exact this
    · obtain ⟨m0, h0, hcase⟩ := left_spec ha
      have h1 := (h.ms m0 h0).2.2.2.1
      have h2 := (hcs c hc).2.2.1
      have h3 : a.id = m0.id := by
        rcases hcase with ⟨rfl, -⟩ | ⟨-, rfl, -⟩ <;> rfl
      omega
  · intro e he
    rw [hen] at he
    rcases insK_mem.1 he with rfl | he
    · exact ht
    · exact h.ends e he
  · rw [hen]
    exact insK_rising h.endsR (keyB_not.1 hn)
  · intro x hx
    obtain ⟨h1, h2⟩ := (remK_mem h.waitsR).1 hx
    obtain ⟨a1, a2, a3⟩ := h.waits x h1
    exact ⟨a1, hout _ h2 a2, a3⟩
  · intro p hp
    obtain ⟨h1, h2⟩ := (remK_mem h.openR).1 hp
    obtain ⟨a1, a2, a3⟩ := h.open_ p h1
    exact ⟨a1, hout _ h2 a2, keyB_rem a3⟩
  · intro p hp
    obtain ⟨a1, e, he, a2, a3⟩ := h.noes p hp
    exact ⟨a1, e, insK_mem.2 (.inr he), a2, a3⟩

/-- There is room for all that is prepared. -/
structure Roomy (s : StV) : Prop where
  ms : s.ms.length + pending s ≤ 72
  id : s.nextId + (pending s : Int) ≤ 4294967296
  seq : s.nextSeq + (pending s : Int) ≤ 1099511627776

theorem sum_ins (x : BrV) : ∀ l : List BrV, ((insK BrV.tid x l).map fun y => y.puts.length).sum = x.puts.length + (l.map fun y => y.puts.length).sum
  | [] => by simp [insK]
  | z :: l => by
    rw [insK_cons]
    split
    · rw [List.map_cons, List.sum_cons, sum_ins x l, List.map_cons, List.sum_cons]
      omega
    · simp

theorem sum_rem (t : Int) : ∀ l : List BrV, ((remK BrV.tid t l).map fun y => y.puts.length).sum + (((waitOf l t).map BrV.puts).getD []).length = (l.map fun y => y.puts.length).sum
  | [] => by simp [remK, waitOf]
  | z :: l => by
    unfold remK waitOf
    by_cases hz : z.tid = t
    · rw [List.eraseP_cons_of_pos (by simpa using hz), List.find?_cons_of_pos (by simpa using hz)]
      simp
      omega
    · rw [List.eraseP_cons_of_neg (by simpa using hz), List.find?_cons_of_neg (by simpa using hz)]
      have ih := sum_rem t l
      unfold remK waitOf at ih
      simp only [List.map_cons, List.sum_cons]
      omega

theorem waitOf_none {l : List BrV} {t : Int} (h : keyB BrV.tid l t = false) : waitOf l t = none := by
  unfold waitOf
  rw [List.find?_eq_none]
  intro x hx
  have := keyB_not.1 h x hx
  simpa using this

theorem waitOf_some {l : List BrV} {t : Int} (h : keyB BrV.tid l t = true) : ∃ x ∈ l, x.tid = t ∧ waitOf l t = some x := by
  obtain ⟨y, hy, ht⟩ := keyB_iff.1 h
  unfold waitOf
  cases hf : l.find? (fun p => decide (p.tid = t)) with
  | none =>
    have := List.find?_eq_none.1 hf y hy
    simp [ht] at this
  | some x =>
    have h1 := List.find?_some hf
    exact ⟨x, List.mem_of_find?_eq_some hf, by simpa using h1, rfl⟩

theorem endS_roomy {s : StV} {t : Int} {yes : Bool} {l : List (ByteArray × ByteArray)} (h : Roomy s) (hr : yes = true → s.ms.length + (l.length + ((remK BrV.tid t s.waits).map fun y => y.puts.length).sum) ≤ 72 ∧ s.nextId + ((l.length + ((remK BrV.tid t s.waits).map fun y => y.puts.length).sum : Nat) : Int) ≤ 4294967296 ∧
    s.nextSeq + ((l.length + ((remK BrV.tid t s.waits).map fun y => y.puts.length).sum : Nat) : Int) ≤ 1099511627776) : Roomy (endS s t yes l) := by
  have hs := sum_rem t s.waits
  have hp : pending (endS s t yes l) = ((remK BrV.tid t s.waits).map fun y => y.puts.length).sum := rfl
  have hp0 : pending s = (s.waits.map fun y => y.puts.length).sum := rfl
  have hll := left_len t yes s.ms
  obtain ⟨h1, h2, h3⟩ := h
  cases yes with
  | true =>
    obtain ⟨r1, r2, r3⟩ := hr rfl
    refine ⟨?_, ?_, ?_⟩
    · rw [hp]
      show (left t true s.ms ++ (if true = true then come s.broker s.nextId s.nextSeq l else [])).length + _ ≤ 72
      rw [if_pos rfl, List.length_append, come_len]
      omega
    · rw [hp]
      show s.nextId + (if true = true then (l.length : Int) else 0) + _ ≤ _
      rw [if_pos rfl]
      omega
    · rw [hp]
      show s.nextSeq + (if true = true then (l.length : Int) else 0) + _ ≤ _
      rw [if_pos rfl]
      omega
  | false =>
    refine ⟨?_, ?_, ?_⟩
    · rw [hp]
      show (left t false s.ms ++ (if false = true then come s.broker s.nextId s.nextSeq l else [])).length + _ ≤ 72
      rw [if_neg (by simp), List.length_append, List.length_nil]
      omega
    · rw [hp]
      show s.nextId + (if false = true then (l.length : Int) else 0) + _ ≤ _
      rw [if_neg (by simp)]
      omega
    · rw [hp]
      show s.nextSeq + (if false = true then (l.length : Int) else 0) + _ ≤ _
      rw [if_neg (by simp)]
      omega

theorem new_may {b : Int} (h : brokerB b = true) : MayP (newS b) ∧ Roomy (newS b) := by
  unfold newS
  rw [if_pos h]
  exact ⟨⟨h, by dsimp only; omega, by dsimp only; omega, by dsimp only; omega, by dsimp only; omega, by dsimp only; omega, by dsimp only; omega, by simp, by simp, by simp, by simp, by simp, by simp, by simp, by simp, by simp, by simp, by simp, by simp, by simp, by simp, by simp, by simp⟩, ⟨by simp [pending], by simp [pending], by simp [pending]⟩⟩

end Go.Proofs.YtjhlfjgfohoflaaGreat


/-
  A record that can be, laid on a state that may be and has room, makes one that may be and has room.
-/
namespace Go.Proofs.YtjhlfjgfohoflaaGreat

theorem pairwise_of_next : ∀ {l : List Int}, (∀ i, i < l.length → 0 < i → l.getD (i - 1) 0 < l.getD i 0) → l.Pairwise (· < ·)
  | [], _ => List.Pairwise.nil
  | x :: l, h => by
    have ih : l.Pairwise (· < ·) := pairwise_of_next (fun i hi h0 => by
      have := h (i + 1) (by simpa using hi) (by omega)
      obtain ⟨j, rfl⟩ : ∃ j, i = j + 1 := ⟨i - 1, by omega⟩
      simpa using this)
    refine List.pairwise_cons.2 ⟨fun y hy => ?_, ih⟩
    cases l with
    | nil => cases hy
    | cons z l =>
      have hz : x < z := by simpa using h 1 (by simp) (by omega)
      rcases List.mem_cons.1 hy with rfl | hy
      · exact hz
      · exact Int.lt_trans hz ((List.pairwise_cons.1 ih).1 y hy)

theorem next_of_pairwise {l : List Int} (h : l.Pairwise (· < ·)) : ∀ i, i < l.length → 0 < i → l.getD (i - 1) 0 < l.getD i 0 := by
  intro i hi h0
  have := List.pairwise_iff_getElem.1 h (i - 1) i (by omega) hi (by omega)
  simpa [List.getD, hi, (by omega : i - 1 < l.length)] using this

theorem risingB_iff {l : List Int} : risingB l = true ↔ (∀ x ∈ l, brokerB x = true) ∧ l.Pairwise (· < ·) ∧ l.length ≤ 7 := by
  unfold risingB
  rw [Bool.and_eq_true, decide_eq_true_eq, decide_eq_true_eq]
  constructor
  · rintro ⟨h1, h2⟩
    refine ⟨fun x hx => ?_, pairwise_of_next (fun i hi h0 => (h1 i hi).2 h0), h2⟩
    obtain ⟨i, hi, rfl⟩ := List.getElem_of_mem hx
    have := (h1 i hi).1
    rwa [show l.getD i 0 = l[i] by simp [List.getD, hi]] at this
  · rintro ⟨h1, h2, h3⟩
    refine ⟨fun i hi => ⟨?_, next_of_pairwise h2 i hi⟩, h3⟩
    rw [show l.getD i 0 = l[i] by simp [List.getD, hi]]
    exact h1 _ (List.getElem_mem hi)

theorem pendP_filter {b : Int} {p : PendV} (h : pendP b p) (f : Int → Bool) (hl : 0 < (p.parts.filter f).length) : pendP b ⟨p.tid, p.parts.filter f⟩ := by
  obtain ⟨h1, h2, h3, h4⟩ := h
  obtain ⟨a1, a2, a3⟩ := risingB_iff.1 h3
  refine ⟨h1, hl, risingB_iff.2 ⟨fun x hx => a1 x (List.mem_filter.1 hx).1, a2.filter _, Nat.le_trans (List.length_filter_le _ _) a3⟩, fun hm => h4 (List.mem_filter.1 hm).1⟩

theorem pendOf_some {l : List PendV} {t : Int} {p : PendV} (h : pendOf l t = some p) : p ∈ l ∧ p.tid = t := by
  unfold pendOf at h
  exact ⟨List.mem_of_find?_eq_some h, by simpa using List.find?_some h⟩

theorem remK_len {α : Type} {key : α → Int} {t : Int} {l : List α} (h : ∃ x ∈ l, key x = t) : (remK key t l).length + 1 = l.length := by
  obtain ⟨x, hx, ht⟩ := h
  unfold remK
  have := List.length_eraseP_of_mem (p := fun y => decide (key y = t)) hx (by simpa using ht)
  have hp := List.length_pos_of_mem hx
  omega

theorem fullE_no {s : StV} {r : RecV} (h : fullE s r = 0) : (r.kind = 3 ∨ r.kind = 5 ∨ r.kind = 7 ∨ r.kind = 8 → s.ends.length < 2000) ∧ (r.kind = 4 → s.waits.length < 2000) ∧ (r.kind = 6 → s.open_.length < 2000) ∧ (r.kind = 8 → 0 < r.parts.length → s.noes.length < 2000) ∧ (r.kind = 4 ∨ r.kind = 7 → fitsB s r.puts.length = true) := by
  unfold fullE at h
  split at h
  · cases h
  · rename_i hn
    refine ⟨fun hk => ?_, fun hk => ?_, fun hk => ?_, fun hk hp => ?_, fun hk => ?_⟩
    · exact Nat.lt_of_not_le (fun hl => hn (.inl ⟨hk, hl⟩))
    · exact Nat.lt_of_not_le (fun hl => hn (.inr (.inl ⟨hk, hl⟩)))
    · exact Nat.lt_of_not_le (fun hl => hn (.inr (.inr (.inl ⟨hk, hl⟩))))
    · exact Nat.lt_of_not_le (fun hl => hn (.inr (.inr (.inr (.inl ⟨hk, hp, hl⟩)))))
    · cases hf : fitsB s r.puts.length with
      | true => rfl
      | false => exact absurd (.inr (.inr (.inr (.inr ⟨hk, hf⟩)))) hn

theorem fitsB_says {s : StV} {n : Nat} (h : fitsB s n = true) : s.ms.length + (pending s + n) ≤ 72 ∧ s.nextId + ((pending s + n : Nat) : Int) ≤ 4294967296 ∧ s.nextSeq + ((pending s + n : Nat) : Int) ≤ 1099511627776 := by
  have := of_decide_eq_true h
  omega

/-- What a record that can be has met. -/
structure CanP (s : StV) (r : RecV) : Prop where
  rec_ : recB r = true
  over : r.kind ≠ 9 → keyB EndV.tid s.ends r.tid = false
  full : fullE s r = 0
  k1 : r.kind = 1 → r.tid = makeZ s.broker (s.tx + 1) ∧ s.tx < 200
  k2 : r.kind = 2 → ∃ m, msgOf s r.id = some m ∧ (m.by_ = 0 ∨ m.by_ = r.tid) ∧ keyB BrV.tid s.waits r.tid = false ∧ keyB PendV.tid s.open_ r.tid = false
  k5 : r.kind = 5 → keyB BrV.tid s.waits r.tid = true
  k9 : r.kind = 9 → ∃ p, pendOf s.noes r.tid = some p ∧ r.parts.getD 0 0 ∈ p.parts
  k678 : r.kind = 6 ∨ r.kind = 7 ∨ r.kind = 8 → homeZ r.tid = s.broker ∧ keyB BrV.tid s.waits r.tid = false ∧ s.broker ∉ r.parts ∧ (r.kind = 6 → keyB PendV.tid s.open_ r.tid = false)
  k4 : r.kind = 4 → keyB BrV.tid s.waits r.tid = false ∧ homeZ r.tid ≠ s.broker
  k3 : r.kind = 3 → keyB BrV.tid s.waits r.tid = false ∧ keyB PendV.tid s.open_ r.tid = false

theorem canE_zero {s : StV} {r : RecV} (h : canE s r = 0) : CanP s r := by
  unfold canE at h
  cases hr : recB r with
  | false => rw [if_pos hr] at h; cases h
  | true =>
    rw [if_neg (by rw [hr]; simp)] at h
    by_cases ho : r.kind ≠ 9 ∧ keyB EndV.tid s.ends r.tid = true
    · rw [if_pos ho] at h; cases h
    rw [if_neg ho] at h
    have hov : r.kind ≠ 9 → keyB EndV.tid s.ends r.tid = false := fun hk => by
      cases hb : keyB EndV.tid s.ends r.tid with
      | false => rfl
      | true => exact absurd ⟨hk, hb⟩ ho
    have nb : ∀ b : Bool, ¬ b = true → b = false := fun b h => by cases b <;> simp at h ⊢
    by_cases h2 : r.kind = 2
    · rw [if_pos h2] at h
      cases hm : msgOf s r.id with
      | none => rw [hm] at h; cases h
      | some m =>
        rw [hm] at h
        dsimp only at h
        split at h
        · cases h
        · rename_i hn
          refine ⟨hr, hov, h, by omega, fun _ => ⟨m, hm, ?_, nb _ (fun e => hn (.inr (.inl e))), nb _ (fun e => hn (.inr (.inr e)))⟩, by omega, by omega, by omega, by omega, by omega⟩
          by_cases h0 : m.by_ = 0
          · exact .inl h0
          · refine .inr ?_
            false_or_by_contra
            rename_i hne
            exact hn (.inl ⟨h0, hne⟩)
    rw [if_neg h2] at h
    by_cases h5 : r.kind = 5
    · rw [if_pos h5] at h
      split at h
      · exact ⟨hr, hov, h, by omega, by omega, fun _ => by assumption, by omega, by omega, by omega, by omega⟩
      · cases h
    rw [if_neg h5] at h
    by_cases h9 : r.kind = 9
    · rw [if_pos h9] at h
      cases hm : pendOf s.noes r.tid with
      | none => rw [hm] at h; cases h
      | some p =>
        rw [hm] at h
        dsimp only at h
        split at h
        · exact ⟨hr, hov, h, by omega, by omega, by omega, fun _ => ⟨p, hm, by assumption⟩, by omega, by omega, by omega⟩
        · cases h
    rw [if_neg h9] at h
    by_cases h1 : r.kind = 1
    · rw [if_pos h1] at h
      split at h
      · cases h
      · split at h
        · cases h
        · rename_i ha hb
          exact ⟨hr, hov, h, fun _ => ⟨by false_or_by_contra; rename_i hne; exact ha hne, by omega⟩, by omega, by omega, by omega, by omega, by omega, by omega⟩
    rw [if_neg h1] at h
    by_cases h6 : r.kind = 6 ∨ r.kind = 7 ∨ r.kind = 8
    · rw [if_pos h6] at h
      split at h
      · cases h
      · rename_i hn
        refine ⟨hr, hov, h, by omega, by omega, by omega, by omega, fun _ => ⟨?_, nb _ (fun e => hn (.inr (.inl e))), fun e => hn (.inr (.inr (.inl e))), fun hk => nb _ (fun e => hn (.inr (.inr (.inr ⟨hk, e⟩))))⟩, by omega, by omega⟩
        false_or_by_contra
        rename_i hne
        exact hn (.inl hne)
    rw [if_neg h6] at h
    by_cases h4 : r.kind = 4
    · rw [if_pos h4] at h
      split at h
      · cases h
      · rename_i hn
        exact ⟨hr, hov, h, by omega, by omega, by omega, by omega, by omega, fun _ => ⟨nb _ (fun e => hn (.inl e)), fun e => hn (.inr e)⟩, by omega⟩
    rw [if_neg h4] at h
    by_cases h3 : r.kind = 3
    · rw [if_pos h3] at h
      split at h
      · cases h
      · rename_i hn
        exact ⟨hr, hov, h, by omega, by omega, by omega, by omega, by omega, by omega, fun _ => ⟨nb _ (fun e => hn (.inl e)), nb _ (fun e => hn (.inr e))⟩⟩
    rw [if_neg h3] at h
    exact ⟨hr, hov, h, by omega, by omega, by omega, by omega, by omega, by omega, by omega⟩

theorem recB_kind {r : RecV} (h : recB r = true) : (r.kind = 4 ∨ r.kind = 7 → putsB r.puts = true) ∧ (r.kind = 6 → 0 < r.parts.length) ∧ (r.kind = 6 ∨ r.kind = 8 → risingB r.parts = true) ∧ 0 < homeZ r.tid := by
  unfold recB at h
  simp only [Bool.and_eq_true] at h
  obtain ⟨ht, -, -, -, -, hlast⟩ := h
  refine ⟨fun hk => ?_, fun hk => ?_, fun hk => ?_, by simpa [tidB] using ht⟩
  · rw [if_neg (by omega), if_neg (by omega), if_pos hk] at hlast
    exact hlast
  · rw [if_neg (by omega), if_neg (by omega), if_neg (by omega), if_pos hk, Bool.and_eq_true] at hlast
    simpa using hlast.1
  · rcases hk with hk | hk
    · rw [if_neg (by omega), if_neg (by omega), if_neg (by omega), if_pos hk, Bool.and_eq_true] at hlast
      exact hlast.2
    · rw [if_neg (by omega), if_neg (by omega), if_neg (by omega), if_neg (by omega), if_pos hk] at hlast
      exact hlast

end Go.Proofs.YtjhlfjgfohoflaaGreat


/-
  What a record that can be makes of a state that may be.
-/
namespace Go.Proofs.YtjhlfjgfohoflaaGreat

theorem putsB_says {l : List (ByteArray × ByteArray)} (h : putsB l = true) : (∀ p ∈ l, putB p = true) ∧ l.length ≤ 10 := by
  unfold putsB at h
  rw [Bool.and_eq_true, decide_eq_true_eq] at h
  exact ⟨List.all_eq_true.1 h.1, h.2⟩

theorem take_map (s : StV) (i t : Int) : (s.ms.map fun m => if m.id = i then { m with by_ := t } else m).map MsgV.id = s.ms.map MsgV.id ∧ (s.ms.map fun m => if m.id = i then { m with by_ := t } else m).map MsgV.seq = s.ms.map MsgV.seq := by
  constructor
  · rw [List.map_map]
    refine List.map_congr_left (fun m _ => ?_)
    show MsgV.id (if m.id = i then _ else m) = m.id
    split <;> rfl
  · rw [List.map_map]
    refine List.map_congr_left (fun m _ => ?_)
    show MsgV.seq (if m.id = i then _ else m) = m.seq
    split <;> rfl

theorem layS_may {s : StV} {r : RecV} (h : MayP s) (hr : Roomy s) (hc : CanP s r) : MayP (layS s r) ∧ Roomy (layS s r) := by
  obtain ⟨c4, c6, c68, ct⟩ := recB_kind hc.rec_
  obtain ⟨f1, f2, f3, f4, f5⟩ := fullE_no hc.full
  have hsum := sum_rem r.tid s.waits
  have hp0 : pending s = (s.waits.map fun y => y.puts.length).sum := rfl
  unfold layS
  by_cases k1 : r.kind = 1
  · rw [if_pos k1]
    obtain ⟨-, a2⟩ := hc.k1 k1
    have := h.tx1
    exact ⟨⟨h.broker, h.id1, h.id2, h.seq1, h.seq2, by show 0 ≤ s.tx + 1; omega, by show s.tx + 1 ≤ 200; omega, h.lms, h.lwaits, h.lends, h.lopen, h.lnoes, h.ms, h.seqs, h.ids, h.ends, h.endsR, h.waits, h.waitsR, h.open_, h.openR, h.noes, h.noesR⟩, ⟨hr.ms, hr.id, hr.seq⟩⟩
  rw [if_neg k1]
  by_cases k2 : r.kind = 2
  · rw [if_pos k2]
    have hov := hc.over (by omega)
    obtain ⟨e1, e2⟩ := take_map s r.id r.tid
    refine ⟨⟨h.broker, h.id1, h.id2, h.seq1, h.seq2, h.tx1, h.tx2, by show (s.ms.map _).length ≤ 72; rw [List.length_map]; exact h.lms, h.lwaits, h.lends, h.lopen, h.lnoes, ?_, ?_, ?_, h.ends, h.endsR, h.waits, h.waitsR, h.open_, h.openR, h.noes, h.noesR⟩, ⟨by show (s.ms.map _).length + pending s ≤ 72; rw [List.length_map]; exact hr.ms, hr.id, hr.seq⟩⟩
    · intro m hm
      obtain ⟨m0, h0, rfl⟩ := List.mem_map.1 hm
      obtain ⟨p1, p2, p3, p4, p5, p6, p7, p8, p9⟩ := h.ms m0 h0
      split
      · exact ⟨p1, p2, p3, p4, p5, p6, p7, p8, .inr ⟨ct, hov⟩⟩
      · exact ⟨p1, p2, p3, p4, p5, p6, p7, p8, p9⟩
    · have := (List.pairwise_map (R := fun a b : Int => a < b) (f := MsgV.seq)).2 h.seqs
      rw [← e2] at this
      exact List.pairwise_map.1 this
    · have := (List.pairwise_map (R := fun a b : Int => a ≠ b) (f := MsgV.id)).2 h.ids
      rw [← e1] at this
      exact List.pairwise_map.1 this
  rw [if_neg k2]
  by_cases k3 : r.kind = 3
  · rw [if_pos k3]
    exact ⟨endS_may h ct (hc.over (by omega)) (f1 (by omega)) (by simp) (by simp), endS_roomy hr (by simp)⟩
  rw [if_neg k3]
  by_cases k4 : r.kind = 4
  · rw [if_pos k4]
    obtain ⟨a1, a2⟩ := hc.k4 k4
    obtain ⟨b1, b2, b3⟩ := fitsB_says (f5 (by omega))
    have hov := hc.over (by omega)
    have hs : pending { s with waits := insK BrV.tid ⟨r.tid, r.puts⟩ s.waits } = r.puts.length + pending s := sum_ins ⟨r.tid, r.puts⟩ s.waits
    refine ⟨⟨h.broker, h.id1, h.id2, h.seq1, h.seq2, h.tx1, h.tx2, h.lms, ?_, h.lends, h.lopen, h.lnoes, h.ms, h.seqs, h.ids, h.ends, h.endsR, ?_, insK_rising h.waitsR (keyB_not.1 a1), ?_, h.openR, h.noes, h.noesR⟩, ⟨?_, ?_, ?_⟩⟩
    · show (insK BrV.tid ⟨r.tid, r.puts⟩ s.waits).length ≤ 2000
      rw [insK_len]
      exact f2 k4
    · intro x hx
      rcases insK_mem.1 hx with rfl | hx
      · exact ⟨ct, hov, c4 (.inl k4)⟩
      · exact h.waits x hx
    · intro p hp
      obtain ⟨p1, p2, p3⟩ := h.open_ p hp
      refine ⟨p1, p2, keyB_ins p3 (fun e => a2 ?_)⟩
      have e : r.tid = p.tid := e
      rw [e]
      exact p1.1
    · rw [hs]
      show s.ms.length + _ ≤ 72
      omega
    · rw [hs]
      show s.nextId + _ ≤ _
      omega
    · rw [hs]
      show s.nextSeq + _ ≤ _
      omega
  rw [if_neg k4]
  by_cases k5 : r.kind = 5
  · rw [if_pos k5]
    obtain ⟨x, hx, hxt, hw⟩ := waitOf_some (hc.k5 k5)
    rw [hw] at hsum ⊢
    simp only [Option.map_some, Option.getD_some] at hsum ⊢
    obtain ⟨q1, q2, q3⟩ := h.waits x hx
    obtain ⟨r1, r2, r3⟩ := hr
    exact ⟨endS_may h ct (hc.over (by omega)) (f1 (by omega)) (fun _ => (putsB_says q3).1) (fun _ => by omega), endS_roomy ⟨r1, r2, r3⟩ (fun _ => by omega)⟩
  rw [if_neg k5]
  by_cases k6 : r.kind = 6
  · rw [if_pos k6]
    obtain ⟨a1, a2, a3, a4⟩ := hc.k678 (.inl k6)
    refine ⟨⟨h.broker, h.id1, h.id2, h.seq1, h.seq2, h.tx1, h.tx2, h.lms, h.lwaits, h.lends, ?_, h.lnoes, h.ms, h.seqs, h.ids, h.ends, h.endsR, h.waits, h.waitsR, ?_, insK_rising h.openR (keyB_not.1 (a4 k6)), h.noes, h.noesR⟩, ⟨hr.ms, hr.id, hr.seq⟩⟩
    · show (insK PendV.tid ⟨r.tid, r.parts⟩ s.open_).length ≤ 2000
      rw [insK_len]
      exact f3 k6
    · intro p hp
      rcases insK_mem.1 hp with rfl | hp
      · exact ⟨⟨a1, c6 k6, c68 (.inl k6), a3⟩, hc.over (by omega), a2⟩
      · exact h.open_ p hp
  rw [if_neg k6]
  by_cases k7 : r.kind = 7
  · rw [if_pos k7]
    obtain ⟨b1, b2, b3⟩ := fitsB_says (f5 (by omega))
    exact ⟨endS_may h ct (hc.over (by omega)) (f1 (by omega)) (fun _ => (putsB_says (c4 (.inr k7))).1) (fun _ => by omega), endS_roomy hr (fun _ => by omega)⟩
  rw [if_neg k7]
  by_cases k8 : r.kind = 8
  · rw [if_pos k8]
    obtain ⟨a1, a2, a3, -⟩ := hc.k678 (.inr (.inr k8))
    have hm := endS_may (yes := false) (l := []) h ct (hc.over (by omega)) (f1 (by omega)) (by simp) (by simp)
    have hro := endS_roomy (t := r.tid) (yes := false) (l := []) hr (by simp)
    dsimp only
    split
    · rename_i hpos
      refine ⟨⟨hm.broker, hm.id1, hm.id2, hm.seq1, hm.seq2, hm.tx1, hm.tx2, hm.lms, hm.lwaits, hm.lends, hm.lopen, ?_, hm.ms, hm.seqs, hm.ids, hm.ends, hm.endsR, hm.waits, hm.waitsR, hm.open_, hm.openR, ?_, ?_⟩, ⟨hro.ms, hro.id, hro.seq⟩⟩
      · show (insK PendV.tid ⟨r.tid, r.parts⟩ s.noes).length ≤ 2000
        rw [insK_len]
        exact f4 k8 hpos
      · intro p hp
        rcases insK_mem.1 hp with rfl | hp
        · exact ⟨⟨a1, hpos, c68 (.inr k8), a3⟩, ⟨r.tid, false⟩, insK_mem.2 (.inl rfl), rfl, rfl⟩
        · exact hm.noes p hp
      · refine insK_rising h.noesR (fun p hp e => ?_)
        obtain ⟨-, x, hx, hxt, -⟩ := h.noes p hp
        exact keyB_not.1 (hc.over (by omega)) x hx (hxt.trans e)
    · exact ⟨hm, hro⟩
  rw [if_neg k8]
  have k9 : r.kind = 9 := by
    obtain ⟨z1, z9, -⟩ := recB_says hc.rec_
    omega
  obtain ⟨p, hp, hin⟩ := hc.k9 k9
  obtain ⟨hpm, hpt⟩ := pendOf_some hp
  rw [hp]
  simp only [Option.getD_some]
  obtain ⟨pp, x, hx, hxt, hxy⟩ := h.noes p hpm
  have hrl := remK_len (key := PendV.tid) (t := r.tid) (l := s.noes) ⟨p, hpm, hpt⟩
  have hln := h.lnoes
  split
  · rename_i hpos
    refine ⟨⟨h.broker, h.id1, h.id2, h.seq1, h.seq2, h.tx1, h.tx2, h.lms, h.lwaits, h.lends, h.lopen, ?_, h.ms, h.seqs, h.ids, h.ends, h.endsR, h.waits, h.waitsR, h.open_, h.openR, ?_, ?_⟩, ⟨hr.ms, hr.id, hr.seq⟩⟩
    · show (insK PendV.tid _ (remK PendV.tid r.tid s.noes)).length ≤ 2000
      rw [insK_len]
      omega
    · intro z hz
      rcases insK_mem.1 hz with rfl | hz
      · have := pendP_filter pp (fun n => decide (n ≠ r.parts.getD 0 0)) hpos
        rw [hpt] at this
        exact ⟨this, x, hx, hxt.trans hpt, hxy⟩
      · exact h.noes z ((remK_mem h.noesR).1 hz).1
    · exact insK_rising (remK_rising h.noesR) (fun z hz => ((remK_mem h.noesR).1 hz).2)
  · refine ⟨⟨h.broker, h.id1, h.id2, h.seq1, h.seq2, h.tx1, h.tx2, h.lms, h.lwaits, h.lends, h.lopen, Nat.le_trans remK_len_le h.lnoes, h.ms, h.seqs, h.ids, h.ends, h.endsR, h.waits, h.waitsR, h.open_, h.openR, ?_, remK_rising h.noesR⟩, ⟨hr.ms, hr.id, hr.seq⟩⟩
    intro z hz
    exact h.noes z ((remK_mem h.noesR).1 hz).1

end Go.Proofs.YtjhlfjgfohoflaaGreat


/-
  May, Apply, Eq of states as functions; which messages are new; which message is next, who holds what.
-/
namespace Go.Proofs.YtjhlfjgfohoflaaGreat

/-- May a state be. -/
def mayB (s : StV) : Bool :=
  brokerB s.broker && (decide (1 ≤ s.nextId ∧ s.nextId ≤ 4294967296 ∧ 1 ≤ s.nextSeq ∧ s.nextSeq ≤ 1099511627776 ∧ 0 ≤ s.tx ∧ s.tx ≤ 200) && (decide (s.ms.length ≤ 72 ∧ s.waits.length ≤ 2000 ∧ s.ends.length ≤ 2000 ∧ s.open_.length ≤ 2000 ∧ s.noes.length ≤ 2000) &&
  (decide ((∀ m ∈ s.ms, msgP s m) ∧ Rising MsgV.seq s.ms ∧ s.ms.Pairwise fun a b => a.id ≠ b.id) && (decide ((∀ e ∈ s.ends, 0 < homeZ e.tid) ∧ Rising EndV.tid s.ends) &&
  (decide ((∀ x ∈ s.waits, 0 < homeZ x.tid ∧ keyB EndV.tid s.ends x.tid = false ∧ putsB x.puts = true) ∧ Rising BrV.tid s.waits) &&
  (decide ((∀ p ∈ s.open_, pendP s.broker p ∧ keyB EndV.tid s.ends p.tid = false ∧ keyB BrV.tid s.waits p.tid = false) ∧ Rising PendV.tid s.open_) &&
  decide ((∀ p ∈ s.noes, pendP s.broker p ∧ ∃ e ∈ s.ends, e.tid = p.tid ∧ e.yes = false) ∧ Rising PendV.tid s.noes)))))))

theorem mayB_iff {s : StV} : mayB s = true ↔ MayP s := by
  unfold mayB
  simp only [Bool.and_eq_true, decide_eq_true_eq]
  constructor
  · rintro ⟨h0, ⟨h1, h2, h3, h4, h5, h6⟩, ⟨l1, l2, l3, l4, l5⟩, ⟨m1, m2, m3⟩, ⟨e1, e2⟩, ⟨w1, w2⟩, ⟨o1, o2⟩, ⟨n1, n2⟩⟩
    exact ⟨h0, h1, h2, h3, h4, h5, h6, l1, l2, l3, l4, l5, m1, m2, m3, e1, e2, w1, w2, o1, o2, n1, n2⟩
  · intro h
    exact ⟨h.broker, ⟨h.id1, h.id2, h.seq1, h.seq2, h.tx1, h.tx2⟩, ⟨h.lms, h.lwaits, h.lends, h.lopen, h.lnoes⟩, ⟨h.ms, h.seqs, h.ids⟩, ⟨h.ends, h.endsR⟩, ⟨h.waits, h.waitsR⟩, ⟨h.open_, h.openR⟩, ⟨h.noes, h.noesR⟩⟩

/-- A record laid on a state: of what can't be, the state as it was. -/
def applyS (s : StV) (r : RecV) : StV := if mayB s = true ∧ canE s r = 0 then layS s r else s

theorem applyS_may {s : StV} (r : RecV) (h : MayP s) (hr : Roomy s) : MayP (applyS s r) ∧ Roomy (applyS s r) := by
  unfold applyS
  split
  · rename_i hc
    exact layS_may h hr (canE_zero hc.2)
  · exact ⟨h, hr⟩

theorem applyS_broker (s : StV) (r : RecV) : (applyS s r).broker = s.broker := by
  unfold applyS
  split
  · unfold layS
    repeat' split
    all_goals first
      | rfl
      | (dsimp only; split <;> rfl)
  · rfl

/-- The same, part by part. -/
def eqMsgB (a b : MsgV) : Bool := decide (a.id = b.id) && (decide (a.queue = b.queue) && (decide (a.body = b.body) && (decide (a.seq = b.seq) && (decide (a.count = b.count) && decide (a.by_ = b.by_)))))

theorem eqMsgB_iff (a b : MsgV) : eqMsgB a b = true ↔ a = b := by
  obtain ⟨i1, q1, b1, s1, c1, y1⟩ := a
  obtain ⟨i2, q2, b2, s2, c2, y2⟩ := b
  simp [eqMsgB]

instance : DecidableEq MsgV := fun a b => decidable_of_iff _ (eqMsgB_iff a b)

def eqBrB (a b : BrV) : Bool := decide (a.tid = b.tid) && decide (a.puts = b.puts)

theorem eqBrB_iff (a b : BrV) : eqBrB a b = true ↔ a = b := by
  obtain ⟨i1, q1⟩ := a
  obtain ⟨i2, q2⟩ := b
  simp [eqBrB]

instance : DecidableEq BrV := fun a b => decidable_of_iff _ (eqBrB_iff a b)

def eqPendB (a b : PendV) : Bool := decide (a.tid = b.tid) && decide (a.parts = b.parts)

theorem eqPendB_iff (a b : PendV) : eqPendB a b = true ↔ a = b := by
  obtain ⟨i1, q1⟩ := a
  obtain ⟨i2, q2⟩ := b
  simp [eqPendB]

instance : DecidableEq PendV := fun a b => decidable_of_iff _ (eqPendB_iff a b)

def eqEndB (a b : EndV) : Bool := decide (a.tid = b.tid) && decide (a.yes = b.yes)

theorem eqEndB_iff (a b : EndV) : eqEndB a b = true ↔ a = b := by
  obtain ⟨i1, q1⟩ := a
  obtain ⟨i2, q2⟩ := b
  simp [eqEndB]

instance : DecidableEq EndV := fun a b => decidable_of_iff _ (eqEndB_iff a b)

def eqStB (a b : StV) : Bool := decide (a.broker = b.broker) && (decide (a.nextId = b.nextId) && (decide (a.nextSeq = b.nextSeq) && (decide (a.tx = b.tx) && (decide (a.ms = b.ms) && (decide (a.waits = b.waits) && (decide (a.ends = b.ends) && (decide (a.open_ = b.open_) && decide (a.noes = b.noes))))))))

theorem eqStB_iff (a b : StV) : eqStB a b = true ↔ a = b := by
  obtain ⟨a1, a2, a3, a4, a5, a6, a7, a8, a9⟩ := a
  obtain ⟨b1, b2, b3, b4, b5, b6, b7, b8, b9⟩ := b
  simp [eqStB]

/-- What is new among the messages: just what came, in its order. -/
theorem endS_ms (s : StV) (t : Int) (yes : Bool) (l : List (ByteArray × ByteArray)) : ∃ old l', (endS s t yes l).ms = old ++ come s.broker s.nextId s.nextSeq l' ∧ (∀ m ∈ old, ∃ m0 ∈ s.ms, m0.id = m.id) ∧ (endS s t yes l).nextId = s.nextId + (l'.length : Int) ∧ (endS s t yes l).nextSeq = s.nextSeq + (l'.length : Int) := by
  have hold : ∀ m ∈ left t yes s.ms, ∃ m0 ∈ s.ms, m0.id = m.id := fun m hm => by
    obtain ⟨m0, h0, hc⟩ := left_spec hm
    refine ⟨m0, h0, ?_⟩
    rcases hc with ⟨rfl, -⟩ | ⟨-, rfl, -⟩ <;> rfl
  cases yes with
  | true =>
    refine ⟨left t true s.ms, l, ?_, hold, ?_, ?_⟩
    · show left t true s.ms ++ (if true = true then come s.broker s.nextId s.nextSeq l else []) = _
      rw [if_pos rfl]
    · show s.nextId + (if true = true then (l.length : Int) else 0) = _
      rw [if_pos rfl]
    · show s.nextSeq + (if true = true then (l.length : Int) else 0) = _
      rw [if_pos rfl]
  | false =>
    refine ⟨left t false s.ms, [], ?_, hold, ?_, ?_⟩
    · show left t false s.ms ++ (if false = true then come s.broker s.nextId s.nextSeq l else []) = _
      rw [if_neg (by simp)]
      rfl
    · show s.nextId + (if false = true then (l.length : Int) else 0) = _
      rw [if_neg (by simp)]
      rfl
    · show s.nextSeq + (if false = true then (l.length : Int) else 0) = _
      rw [if_neg (by simp)]
      rfl

theorem applyS_ms (s : StV) (r : RecV) : ∃ old l', (applyS s r).ms = old ++ come s.broker s.nextId s.nextSeq l' ∧ (∀ m ∈ old, ∃ m0 ∈ s.ms, m0.id = m.id) ∧ (applyS s r).nextId = s.nextId + (l'.length : Int) ∧ (applyS s r).nextSeq = s.nextSeq + (l'.length : Int) := by
  have hsame : ∃ old l', s.ms = old ++ come s.broker s.nextId s.nextSeq l' ∧ (∀ m ∈ old, ∃ m0 ∈ s.ms, m0.id = m.id) ∧ s.nextId = s.nextId + (l'.length : Int) ∧ s.nextSeq = s.nextSeq + (l'.length : Int) :=
    ⟨s.ms, [], by simp [come], fun m hm => ⟨m, hm, rfl⟩, by simp, by simp⟩
  unfold applyS
  by_cases hc : mayB s = true ∧ canE s r = 0
  · rw [if_pos hc]
    unfold layS
    by_cases k1 : r.kind = 1
    · rw [if_pos k1]; exact hsame
    rw [if_neg k1]
    by_cases k2 : r.kind = 2
    · rw [if_pos k2]
      refine ⟨s.ms.map fun m => if m.id = r.id then { m with by_ := r.tid } else m, [], by simp [come], fun m hm => ?_, by simp, by simp⟩
      obtain ⟨m0, h0, rfl⟩ := List.mem_map.1 hm
      refine ⟨m0, h0, ?_⟩
      split <;> rfl
    rw [if_neg k2]
    by_cases k3 : r.kind = 3
    · rw [if_pos k3]; exact endS_ms s r.tid false []
    rw [if_neg k3]
    by_cases k4 : r.kind = 4
    · rw [if_pos k4]; exact hsame
    rw [if_neg k4]
    by_cases k5 : r.kind = 5
    · rw [if_pos k5]; exact endS_ms s r.tid r.yes _
    rw [if_neg k5]
    by_cases k6 : r.kind = 6
    · rw [if_pos k6]; exact hsame
    rw [if_neg k6]
    by_cases k7 : r.kind = 7
    · rw [if_pos k7]; exact endS_ms s r.tid true r.puts
    rw [if_neg k7]
    by_cases k8 : r.kind = 8
    · rw [if_pos k8]
      have := endS_ms s r.tid false []
      dsimp only
      split
      · exact this
      · exact this
    rw [if_neg k8]
    dsimp only
    split
    · exact hsame
    · exact hsame
  · rw [if_neg hc]; exact hsame

/-! ### Which message is next, who holds what -/

def deadB (m : MsgV) : Bool := decide (m.by_ = 0) && decide (3 ≤ m.count)

/-- Free: it can be taken. -/
def freeB (q : ByteArray) (m : MsgV) : Bool := decide (m.queue = q) && (decide (m.by_ = 0) && !deadB m)

/-- The next message of a queue: messages stand by rising Seq. -/
def nextM (s : StV) (q : ByteArray) : Option MsgV := s.ms.find? (freeB q)

theorem nextM_least {s : StV} {q : ByteArray} {m : MsgV} (h : Rising MsgV.seq s.ms) (hm : nextM s q = some m) : m ∈ s.ms ∧ freeB q m = true ∧ ∀ x ∈ s.ms, freeB q x = true → m.seq ≤ x.seq := by
  unfold nextM at hm
  refine ⟨List.mem_of_find?_eq_some hm, List.find?_some hm, ?_⟩
  obtain ⟨-, l1, l2, hab, hn⟩ := List.find?_eq_some_iff_append.1 hm
  intro x hx hf
  rw [hab] at hx h
  rcases List.mem_append.1 hx with hx | hx
  · have := hn x hx
    rw [hf] at this
    simp at this
  · rcases List.mem_cons.1 hx with rfl | hx
    · exact Int.le_refl _
    · have := (List.pairwise_cons.1 (List.pairwise_append.1 h).2.1).1 x hx
      omega

/-- How many are free, held, dead. -/
def countF (s : StV) (q : ByteArray) : Nat := (s.ms.filter fun m => decide (m.queue = q) && (decide (m.by_ = 0) && !deadB m)).length
def countH (s : StV) (q : ByteArray) : Nat := (s.ms.filter fun m => decide (m.queue = q) && decide (m.by_ ≠ 0)).length
def countD (s : StV) (q : ByteArray) : Nat := (s.ms.filter fun m => decide (m.queue = q) && deadB m).length

theorem counts_all (s : StV) (q : ByteArray) : countF s q + countH s q + countD s q = (s.ms.filter fun m => decide (m.queue = q)).length := by
  unfold countF countH countD
  induction s.ms with
  | nil => rfl
  | cons m l ih =>
    simp only [List.filter_cons]
    by_cases hq : m.queue = q
    · by_cases hb : m.by_ = 0
      · by_cases hc : 3 ≤ m.count
        · simp [hq, hb, hc, deadB]
          simp [deadB] at ih
          omega
        · simp [hq, hb, hc, deadB]
          simp [deadB] at ih
          omega
      · simp [hq, hb, deadB]
        simp [deadB] at ih
        omega
    · simp [hq]
      simp at ih
      omega

end Go.Proofs.YtjhlfjgfohoflaaGreat


/-
  A broker's state as cells: slices of things of some cells each; slices within them.
-/
namespace Go.Proofs.YtjhlfjgfohoflaaGreat
open Go.RowKit

/-- A slice of things of n cells each, as cells. -/
def Tl {α : Type} (n : Nat) (f : α → List Value) (w : World) (ao : Option Addr) (c : Nat) (l : List α) : Prop :=
  (ao = none ∧ c = 0 ∧ l = []) ∨
  ∃ b off, ao = some ⟨b, off, none⟩ ∧ l.length ≤ c ∧ c ≤ maxLen ∧ ∀ i x, l[i]? = some x → ∀ j u, (f x)[j]? = some u → w.cell? ⟨b, off + i * n + j, none⟩ = some u

theorem Tl.turn {α : Type} {n : Nat} {f : α → List Value} {w w' : World} {ao : Option Addr} {c : Nat} {l : List α} (h : Tl n f w ao c l) {m : List Nat} (t : Turn m w w') (hm : ∀ b off, ao = some ⟨b, off, none⟩ → b ∉ m) : Tl n f w' ao c l := by
  rcases h with h | ⟨b, off, h1, h2, h3, h4⟩
  · exact .inl h
  · exact .inr ⟨b, off, h1, h2, h3, fun i x hx j u hu => t.cell (h4 i x hx j u hu) (hm b off h1)⟩

theorem Tl.still {α : Type} {n : Nat} {f : α → List Value} {w w' : World} {ao : Option Addr} {c : Nat} {l : List α} (h : Tl n f w ao c l) (t : Turn [] w w') : Tl n f w' ao c l := h.turn t (by simp)

theorem Tl.len {α : Type} {n : Nat} {f : α → List Value} {w : World} {ao : Option Addr} {c : Nat} {l : List α} (h : Tl n f w ao c l) : (l.length : Int) ≤ 9223372036854775807 := by
  rcases h with ⟨_, _, rfl⟩ | ⟨b, off, _, q1, q2, _⟩
  · simp
  · unfold maxLen at q2; omega

/-- The cells of the thing at a place. -/
theorem Tl.at {α : Type} {n : Nat} {f : α → List Value} {w : World} {ao : Option Addr} {c : Nat} {l : List α} (h : Tl n f w ao c l) {i : Nat} {x : α} (hi : l[i]? = some x) :
    ∃ b off, ao = some ⟨b, off, none⟩ ∧ ∀ j u, (f x)[j]? = some u → w.cell? ⟨b, off + i * n + j, none⟩ = some u := by
  rcases h with ⟨_, _, rfl⟩ | ⟨b, off, h1, h2, h3, h4⟩
  · simp at hi
  · exact ⟨b, off, h1, h4 i x hi⟩

theorem Tl.nil {α : Type} (n : Nat) (f : α → List Value) (w : World) : Tl n f w none 0 ([] : List α) := .inl ⟨rfl, rfl, rfl⟩

/-- A front of it. -/
theorem Tl.front {α : Type} {n : Nat} {f : α → List Value} {w : World} {ao : Option Addr} {c : Nat} {l : List α} (h : Tl n f w ao c l) (k : Nat) : Tl n f w ao c (l.take k) := by
  rcases h with ⟨h1, h2, rfl⟩ | ⟨b, off, h1, h2, h3, h4⟩
  · exact .inl ⟨h1, h2, by simp⟩
  · refine .inr ⟨b, off, h1, by rw [List.length_take]; omega, h3, fun i x hx => h4 i x ?_⟩
    rw [List.getElem?_take] at hx
    split at hx
    · exact hx
    · cases hx

/-- A row of the call's own as such a slice. -/
theorem Tl.of_own {α : Type} {n : Nat} {f : α → List Value} (hf : ∀ x, (f x).length = n) {w : World} {B : Nat} {e : TypeId} {ao : Option Addr} {c : Nat} {l : List α} (h : w.ownsRow B e n (.slice ao l.length c) l.length (l.flatMap f)) : Tl n f w ao c l := by
  rcases h.2 with ⟨e1, h0⟩ | ⟨g, cap, cur, e1, _, hg, h1, h2, h3, h4⟩
  · injection e1 with e2 e3 e4
    exact .inl ⟨e2, e4, List.eq_nil_of_length_eq_zero h0⟩
  · injection e1 with e2 e3 e4
    subst e2 e4
    refine .inr ⟨g, 0, rfl, h1, h2, fun i x hx j u hu => ?_⟩
    have hi : i < l.length := (List.getElem?_eq_some_iff.1 hx).1
    have hj : j < n := by have := (List.getElem?_eq_some_iff.1 hu).1; rwa [hf] at this
    have hlt : i * n + j < l.length * n := by
      have : (i + 1) * n ≤ l.length * n := Nat.mul_le_mul_right n hi
      rw [Nat.add_mul, Nat.one_mul] at this
      omega
    have := h.cellAt (i * n + j) hlt
    rw [Nat.zero_add, this]
    exact flat_at f hf l i x hx j u hu
where
  flat_at {α : Type} {n : Nat} (f : α → List Value) (hf : ∀ x, (f x).length = n) : ∀ (l : List α) (i : Nat) (x : α), l[i]? = some x → ∀ j u, (f x)[j]? = some u → (l.flatMap f)[i * n + j]? = some u
    | [], i, x, h => by simp at h
    | y :: l, 0, x, h => by
      simp only [List.getElem?_cons_zero, Option.some.injEq] at h
      subst h
      intro j u hu
      rw [List.flatMap_cons, Nat.zero_mul, Nat.zero_add, List.getElem?_append_left ((List.getElem?_eq_some_iff.1 hu).1)]
      exact hu
    | y :: l, i + 1, x, h => by
      intro j u hu
      rw [List.getElem?_cons_succ] at h
      have e : (i + 1) * n + j = (f y).length + (i * n + j) := by rw [hf, Nat.add_mul, Nat.one_mul]; omega
      rw [List.flatMap_cons, e, List.getElem?_append_right (by omega), Nat.add_sub_cancel_left]
      exact flat_at f hf l i x h j u hu

def msgC (m : MsgV) : List Value := [.int .i64 m.id, .string m.queue, .string m.body, .int .i64 m.seq, .int .i64 m.count, .int .i64 m.by_]
def endC (e : EndV) : List Value := [.int .i64 e.tid, .bool e.yes]

/-- A thing, and where its own slice lies. -/
structure Lay (α : Type) where
  v : α
  ao : Option Addr
  c : Nat

def brC (x : Lay BrV) : List Value := [.int .i64 x.v.tid, .slice x.ao x.v.puts.length x.c]
def pendC (x : Lay PendV) : List Value := [.int .i64 x.v.tid, .slice x.ao x.v.parts.length x.c]

/-- Branches, pending ones as cells. -/
def Ws (w : World) (ao : Option Addr) (c : Nat) (l : List BrV) : Prop := ∃ L : List (Lay BrV), L.map Lay.v = l ∧ Tl 2 brC w ao c L ∧ ∀ x ∈ L, Ps w x.ao x.c x.v.puts
def Pds (w : World) (ao : Option Addr) (c : Nat) (l : List PendV) : Prop := ∃ L : List (Lay PendV), L.map Lay.v = l ∧ Tl 2 pendC w ao c L ∧ ∀ x ∈ L, Il w x.ao x.c x.v.parts

theorem Ws.still {w w' : World} {ao : Option Addr} {c : Nat} {l : List BrV} (h : Ws w ao c l) (t : Turn [] w w') : Ws w' ao c l := by
  obtain ⟨L, h1, h2, h3⟩ := h
  exact ⟨L, h1, h2.still t, fun x hx => (h3 x hx).turn t⟩

theorem Pds.still {w w' : World} {ao : Option Addr} {c : Nat} {l : List PendV} (h : Pds w ao c l) (t : Turn [] w w') : Pds w' ao c l := by
  obtain ⟨L, h1, h2, h3⟩ := h
  exact ⟨L, h1, h2.still t, fun x hx => (h3 x hx).turn t⟩

theorem Ws.len {w : World} {ao : Option Addr} {c : Nat} {l : List BrV} (h : Ws w ao c l) : (l.length : Int) ≤ 9223372036854775807 := by
  obtain ⟨L, rfl, h2, -⟩ := h
  have := h2.len
  simpa using this

theorem Pds.len {w : World} {ao : Option Addr} {c : Nat} {l : List PendV} (h : Pds w ao c l) : (l.length : Int) ≤ 9223372036854775807 := by
  obtain ⟨L, rfl, h2, -⟩ := h
  have := h2.len
  simpa using this

/-- Where a state's slices lie. -/
structure Ads where
  m : Option Addr
  cm : Nat
  w : Option Addr
  cw : Nat
  e : Option Addr
  ce : Nat
  o : Option Addr
  co : Nat
  n : Option Addr
  cn : Nat

def StV.cells (s : StV) (a : Ads) : Array Value := #[.int .i64 s.broker, .int .i64 s.nextId, .int .i64 s.nextSeq, .int .i64 s.tx, .slice a.m s.ms.length a.cm, .slice a.w s.waits.length a.cw, .slice a.e s.ends.length a.ce, .slice a.o s.open_.length a.co, .slice a.n s.noes.length a.cn]

/-- Numbers that an int64 bears; texts that are not too long. -/
structure StV.fit (s : StV) : Prop where
  broker : okI s.broker
  nextId : okI s.nextId
  nextSeq : okI s.nextSeq
  tx : okI s.tx
  ms : ∀ m ∈ s.ms, okI m.id ∧ okI m.seq ∧ okI m.count ∧ okI m.by_ ∧ m.queue.size ≤ 9223372036854775807 ∧ m.body.size ≤ 9223372036854775807
  waits : ∀ x ∈ s.waits, okI x.tid
  ends : ∀ x ∈ s.ends, okI x.tid
  open_ : ∀ x ∈ s.open_, okI x.tid
  noes : ∀ x ∈ s.noes, okI x.tid

/-- A state's slices in a world. -/
structure StIs (w : World) (a : Ads) (s : StV) : Prop where
  ms : Tl 6 msgC w a.m a.cm s.ms
  waits : Ws w a.w a.cw s.waits
  ends : Tl 2 endC w a.e a.ce s.ends
  open_ : Pds w a.o a.co s.open_
  noes : Pds w a.n a.cn s.noes

theorem StIs.still {w w' : World} {a : Ads} {s : StV} (h : StIs w a s) (t : Turn [] w w') : StIs w' a s :=
  ⟨h.ms.still t, h.waits.still t, h.ends.still t, h.open_.still t, h.noes.still t⟩

end Go.Proofs.YtjhlfjgfohoflaaGreat
