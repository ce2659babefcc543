/-
  Of the texts Aw, in build order, each as it was built alone.
-/
import Derived.Test.YtjmainefmiefcaaGreatPkAH

/-
  SessAll's state: the Sessions, and the law's own list of sessions beside it.
-/
namespace Go.Proofs.YtjmainefmiefcaaGreat
open Go.RowKit

variable {Ses : World → List Nat → Nat → Int → Nat → Int → Nat → List Sq → Prop}

def sc (t : Int) (q : Sq) : List Value := [.int .i64 q.id, .int .i64 q.tid, .int .i64 (t - q.heard)]

theorem sc_len (t : Int) (q : Sq) : (sc t q).length = 3 := rfl

theorem sc_one (t : Int) (L : List Sq) : ∀ u ∈ L.flatMap (sc t), u.oneCell' = true := by
  intro u hu
  obtain ⟨q, -, hu⟩ := List.mem_flatMap.1 hu
  simp [sc] at hu
  rcases hu with rfl | rfl | rfl <;> rfl

theorem Tryz.sesrow : (Tryz.prog.info? 52).map (fun i => (i.zero, i.size, i.bytes)) = some (some (.agg #[.int .i64 0, .int .i64 0, .int .i64 0]), 3, 24) := by kernel_rfl

/-- The list has L, with ages as they are at tick t; other blocks of the law's: el. -/
structure Aw (Ses : World → List Nat → Nat → Int → Nat → Int → Nat → List Sq → Prop) (w wx : World) (el : List Nat) (vw : Value) (b : Nat) (br : Int) (made : Nat) (ticks : Int) (ns : Nat) (S : List Sq) (t : Int) (L : List Sq) : Prop where
  row : wx.ownsRow 0 52 3 vw L.length (L.flatMap (sc t))
  so : So Ses w wx (vw.ownBlock.toList ++ el) b br made ticks ns S

theorem Aw.bel {w wx : World} {el : List Nat} {vw : Value} {b : Nat} {br : Int} {made : Nat} {ticks : Int} {ns : Nat} {S : List Sq} {t : Int} {L : List Sq} (h : Aw Ses w wx el vw b br made ticks ns S t L) : Below w.heap.size w wx := h.so.bel

theorem Aw.quiet (F : SF Ses) {w wx w' : World} {el : List Nat} {vw : Value} {b : Nat} {br : Int} {made : Nat} {ticks : Int} {ns : Nat} {S : List Sq} {t : Int} {L : List Sq} (h : Aw Ses w wx el vw b br made ticks ns S t L) (tt : Turn [] wx w') : Aw Ses w w' el vw b br made ticks ns S t L :=
  ⟨ownsRow_turn h.row tt (by simp), h.so.quiet F tt⟩

theorem Aw.cells {w wx : World} {el : List Nat} {g m c : Nat} {b : Nat} {br : Int} {made : Nat} {ticks : Int} {ns : Nat} {S : List Sq} {t : Int} {L : List Sq} (h : Aw Ses w wx el (.slice (some ⟨g, 0, none⟩) m c) b br made ticks ns S t L) {i : Nat} {q : Sq} (hq : L[i]? = some q) :
    wx.cell? ⟨g, i * 3, none⟩ = some (.int .i64 q.id) ∧ wx.cell? ⟨g, i * 3 + 1, none⟩ = some (.int .i64 q.tid) ∧ wx.cell? ⟨g, i * 3 + 2, none⟩ = some (.int .i64 (t - q.heard)) ∧ ∀ j, wx.frozen? ⟨g, j, none⟩ = false := by
  have a : ∀ k, k < 3 → wx.cell? ⟨g, i * 3 + k, none⟩ = (sc t q)[k]? := fun k hk => by
    have h1 := flat_at (sc_len t) L i q k hq hk
    obtain ⟨u, hu⟩ : ∃ u, (sc t q)[k]? = some u := ⟨_, List.getElem?_eq_getElem (by rw [sc_len]; exact hk)⟩
    rw [hu] at h1 ⊢
    have := h.row.cells (g := g) rfl (i * 3 + k) u h1
    rwa [Addr.add_lit, Nat.zero_add] at this
  exact ⟨by have := a 0 (by omega); rwa [Nat.add_zero] at this, a 1 (by omega), a 2 (by omega), fun j => by
    obtain ⟨cs, hc⟩ := row_block h.row (k := g) rfl
    exact unfrozen_of hc⟩

theorem Aw.call {w wx : World} {el : List Nat} {vw : Value} {b : Nat} {br br' : Int} {made made' : Nat} {tk tk' : Int} {ns ns' : Nat} {S S' : List Sq} {t : Int} {L : List Sq} (h : Aw Ses w wx el vw b br made tk ns S t L) {f : FuncId} {args : Array Value} {R : Ending → World → Prop}
    (hc : ∀ os, Ses wx os b br made tk ns S → Calls Tryz.prog f args wx (fun e w' => ∃ os', R e w' ∧ Ses w' os' b br' made' tk' ns' S' ∧ Stp os os' wx w')) : Calls Tryz.prog f args wx (fun e w' => R e w' ∧ Aw Ses w w' el vw b br' made' tk' ns' S' t L ∧ Off (vw.ownBlock.toList ++ el) wx w') := by
  refine (h.so.call hc).mono ?_
  rintro e w' ⟨hR, h5, off⟩
  exact ⟨hR, ⟨off.row h.row (fun i hi => by simp [hi]), h5⟩, off⟩

/-- One cell of the list is written. -/
theorem Aw.set (F : SF Ses) {w wx : World} {el : List Nat} {g m c : Nat} {b : Nat} {br : Int} {made : Nat} {ticks : Int} {ns : Nat} {S : List Sq} {t : Int} {A B : List Sq} {q q' : Sq} (h : Aw Ses w wx el (.slice (some ⟨g, 0, none⟩) m c) b br made ticks ns S t (A ++ q :: B)) {k : Nat} {u : Value} (hk : k < 3) (he : (sc t q).set k u = sc t q') :
    Aw Ses w (wx.setCell ⟨g, A.length * 3 + k, none⟩ u) el (.slice (some ⟨g, 0, none⟩) m c) b br made ticks ns S t (A ++ q' :: B) ∧ Turn [g] wx (wx.setCell ⟨g, A.length * 3 + k, none⟩ u) := by
  have em := (row_cap h.row).1
  subst em
  have ts : Turn [g] wx (wx.setCell ⟨g, A.length * 3 + k, none⟩ u) := Turn.setCell wx (by simp) u
  refine ⟨⟨?_, h.so.extra F ts (fun i hi => by rw [List.mem_singleton.1 hi]; simp [Value.ownBlock]) (fun i hi => ⟨.inl hi, ?_⟩)⟩, ts⟩
  · have := (h.row.stored (A.length * 3 + k) u).1
    rw [flat_set (sc_len t) hk he] at this
    rw [show (A ++ q' :: B).length = (A ++ q :: B).length by simp]
    exact this
  · obtain ⟨ow, h1, h2, h3, h4⟩ := h.so
    exact Nat.lt_of_lt_of_le (h3 i hi).2.2 ts.size

/-- The list lies in another row now. -/
theorem Aw.again (F : SF Ses) {w wx w' : World} {el : List Nat} {vw vw' : Value} {b : Nat} {br : Int} {made : Nat} {ticks : Int} {ns : Nat} {S : List Sq} {t : Int} {L L' : List Sq} (h : Aw Ses w wx el vw b br made ticks ns S t L) (tt : Turn [] wx w') (hr : w'.ownsRow wx.heap.size 52 3 vw' L'.length (L'.flatMap (sc t))) :
    Aw Ses w w' el vw' b br made ticks ns S t L' :=
  ⟨ownsRow_base hr (fun _ _ => Nat.zero_le _), h.so.extra F (l := []) tt (by simp) (fun k hk => by
    rcases List.mem_append.1 hk with hk | hk
    · have := hr.lt _ (Option.mem_toList.1 hk)
      exact ⟨.inr this.1, this.2⟩
    · obtain ⟨ow, h1, h2, h3, h4⟩ := h.so
      exact ⟨.inl (List.mem_append_right _ hk), Nat.lt_of_lt_of_le (h3 k (List.mem_append_right _ hk)).2.2 tt.size⟩)⟩

/-- The list's row has grown. -/
theorem Aw.grow (F : SF Ses) {w wx w' : World} {el : List Nat} {vw vw' : Value} {b : Nat} {br : Int} {made : Nat} {ticks : Int} {ns : Nat} {S : List Sq} {t : Int} {L L' : List Sq} (h : Aw Ses w wx el vw b br made ticks ns S t L) (g : wx.grownBy w' vw.ownBlock) (ho : vw'.ownBlock = vw.ownBlock ∨ vw'.ownBlock = some wx.heap.size) (hr : w'.ownsRow 0 52 3 vw' L'.length (L'.flatMap (sc t))) :
    Aw Ses w w' el vw' b br made ticks ns S t L' := by
  have tt : Turn vw.ownBlock.toList wx w' := Turn.grown (l := vw.ownBlock.toList) g (fun i hi => .inl (by simp [hi]))
  refine ⟨hr, h.so.extra F tt (fun k hk => List.mem_append_left _ hk) (fun k hk => ?_)⟩
  rcases List.mem_append.1 hk with hk | hk
  · have hl := (hr.lt _ (Option.mem_toList.1 hk)).2
    rcases ho with ho | ho
    · rw [ho] at hk
      exact ⟨.inl (List.mem_append_left _ hk), hl⟩
    · rw [ho] at hk
      have : k = wx.heap.size := by simpa using hk
      exact ⟨.inr (by omega), hl⟩
  · obtain ⟨ow, h1, h2, h3, h4⟩ := h.so
    exact ⟨.inl (List.mem_append_right _ hk), Nat.lt_of_lt_of_le (h3 k (List.mem_append_right _ hk)).2.2 tt.size⟩

/-- Another row of the law's, of numbers, has grown. -/
theorem Aw.old (F : SF Ses) {w wx w' : World} {vw vo vo' : Value} {b : Nat} {br : Int} {made : Nat} {ticks : Int} {ns : Nat} {S : List Sq} {t : Int} {L : List Sq} {n n' : Nat} {xs xs' : List Value} (h : Aw Ses w wx vo.ownBlock.toList vw b br made ticks ns S t L) (hr : wx.ownsRow 0 2 1 vo n xs) (tt : Turn vo.ownBlock.toList wx w') (hr' : w'.ownsRow 0 2 1 vo' n' xs') (ho : ∀ k, vo'.ownBlock = some k → vo.ownBlock = some k ∨ wx.heap.size ≤ k) :
    Aw Ses w w' vo'.ownBlock.toList vw b br made ticks ns S t L := by
  refine ⟨ownsRow_turn h.row tt (fun k hk e => ?_), h.so.extra F tt (fun k hk => List.mem_append_right _ hk) (fun k hk => ?_)⟩
  · obtain ⟨c1, h1⟩ := row_block h.row hk
    obtain ⟨c2, h2⟩ := row_block hr (Option.mem_toList.1 e)
    exact ty_ne h1 h2 (by decide) rfl
  · rcases List.mem_append.1 hk with hk | hk
    · obtain ⟨ow, h1, h2, h3, h4⟩ := h.so
      exact ⟨.inl (List.mem_append_left _ hk), Nat.lt_of_lt_of_le (h3 k (List.mem_append_left _ hk)).2.2 tt.size⟩
    · have hk2 := Option.mem_toList.1 hk
      refine ⟨?_, (hr'.lt _ hk2).2⟩
      rcases ho k hk2 with e | e
      · exact .inl (List.mem_append_right _ (Option.mem_toList.2 e))
      · exact .inr e

theorem Aw.less (F : SF Ses) {w wx : World} {el : List Nat} {vw : Value} {b : Nat} {br : Int} {made : Nat} {ticks : Int} {ns : Nat} {S : List Sq} {t : Int} {L : List Sq} (h : Aw Ses w wx el vw b br made ticks ns S t L) : Aw Ses w wx [] vw b br made ticks ns S t L :=
  ⟨h.row, h.so.extra F (l := []) (Turn.refl _ _) (by simp) (fun k hk => by
    have hk2 : k ∈ vw.ownBlock.toList := by simpa using hk
    exact ⟨.inl (List.mem_append_left _ hk2), (h.row.lt _ (Option.mem_toList.1 hk2)).2⟩)⟩

/-- The parts of the list ahead of a place and from it on, as what is appended. -/
theorem Aw.front {w wx : World} {el : List Nat} {g m c : Nat} {b : Nat} {br : Int} {made : Nat} {ticks : Int} {ns : Nat} {S : List Sq} {t : Int} {A R : List Sq} (h : Aw Ses w wx el (.slice (some ⟨g, 0, none⟩) m c) b br made ticks ns S t (A ++ R)) : Src 3 wx (some ⟨g, 0, none⟩) A.length c (A.flatMap (sc t)) := by
  refine .inr ⟨_, rfl, flat_length (sc_len t) A, fun j u hj => ?_⟩
  have hl : j < (A.flatMap (sc t)).length := (List.getElem?_eq_some_iff.1 hj).1
  exact h.row.cells (g := g) rfl j u (by rw [List.flatMap_append, List.getElem?_append_left hl]; exact hj)

theorem Aw.back {w wx : World} {el : List Nat} {g m c : Nat} {b : Nat} {br : Int} {made : Nat} {ticks : Int} {ns : Nat} {S : List Sq} {t : Int} {A R : List Sq} (h : Aw Ses w wx el (.slice (some ⟨g, 0, none⟩) m c) b br made ticks ns S t (A ++ R)) (k c' : Nat) (hk : k = A.length) : Src 3 wx (some ⟨g, k * 3, none⟩) R.length c' (R.flatMap (sc t)) := by
  subst hk
  refine .inr ⟨_, rfl, flat_length (sc_len t) R, fun j u hj => ?_⟩
  have hl : j < (R.flatMap (sc t)).length := (List.getElem?_eq_some_iff.1 hj).1
  have := h.row.cells (g := g) rfl (A.length * 3 + j) u (by rw [List.flatMap_append, List.getElem?_append_right (by rw [flat_length (sc_len t)]; omega), flat_length (sc_len t), show A.length * 3 + j - A.length * 3 = j by omega]; exact hj)
  rw [Addr.add_lit, Nat.zero_add] at this
  rw [Addr.add_lit]
  exact this

/-- One tick older. -/
def olds (q : Sq) : Sq := ⟨q.id, q.tid, q.heard - 1⟩

theorem sc_olds (t : Int) (q : Sq) : sc t (olds q) = sc (t + 1) q := by
  unfold sc olds
  simp
  omega

theorem Aw.young {w wx : World} {el : List Nat} {vw : Value} {b : Nat} {br : Int} {made : Nat} {ticks : Int} {ns : Nat} {S : List Sq} {t : Int} {L : List Sq} (h : Aw Ses w wx el vw b br made ticks ns S t (L.map olds)) : Aw Ses w wx el vw b br made ticks ns S (t + 1) L := by
  have e : (L.map olds).flatMap (sc t) = L.flatMap (sc (t + 1)) := by
    rw [List.flatMap_map]
    simp only [sc_olds]
  have := h.row
  rw [e, List.length_map] at this
  exact ⟨this, h.so⟩

def mids (S : List Sq) (j : Nat) : List Sq := (S.take j).map olds ++ S.drop j

theorem mids_full (S : List Sq) : mids S S.length = S.map olds := by simp [mids]

theorem mids_step {S : List Sq} {j : Nat} {q : Sq} (h : S[j]? = some q) : mids S j = (S.take j).map olds ++ q :: S.drop (j + 1) ∧ mids S (j + 1) = (S.take j).map olds ++ olds q :: S.drop (j + 1) := by
  obtain ⟨hl, rfl⟩ := List.getElem?_eq_some_iff.1 h
  refine ⟨?_, ?_⟩
  · unfold mids
    rw [← List.drop_eq_getElem_cons hl]
  · unfold mids
    rw [List.take_succ_eq_append_getElem hl, List.map_append]
    simp

theorem split_id : ∀ (S : List Sq) (x : Int), (S.Pairwise fun p q => p.id < q.id) → ∃ A R, S = A ++ R ∧ (∀ a ∈ A, a.id < x) ∧ ∀ r ∈ R, x ≤ r.id
  | [], x, _ => ⟨[], [], rfl, by simp, by simp⟩
  | q :: S, x, h => by
    obtain ⟨h1, h2⟩ := List.pairwise_cons.1 h
    by_cases hq : q.id < x
    · obtain ⟨A, R, e, hA, hR⟩ := split_id S x h2
      exact ⟨q :: A, R, by rw [e]; rfl, fun a ha => by
        rcases List.mem_cons.1 ha with rfl | ha
        · exact hq
        · exact hA a ha, hR⟩
    · exact ⟨[], q :: S, rfl, by simp, fun r hr => by
        rcases List.mem_cons.1 hr with rfl | hr
        · omega
        · have := h1 r hr; omega⟩

/-- Has another one than x the transaction t? -/
def hsB (x t : Int) (q : Sq) : Bool := decide (t ≠ 0) && (decide (q.tid = t) && decide (q.id ≠ x))

theorem hs_true {x t : Int} {L : List Sq} (h : L.any (hsB x t) = true) : t ≠ 0 ∧ ∃ q ∈ L, q.tid = t ∧ q.id ≠ x := by
  obtain ⟨q, hq, e⟩ := List.any_eq_true.1 h
  simp [hsB] at e
  exact ⟨e.1, q, hq, e.2⟩

theorem hs_false {x t : Int} {L : List Sq} (h : L.any (hsB x t) = false) : t = 0 ∨ ∀ q ∈ L, q.id ≠ x → q.tid ≠ t := by
  by_cases ht : t = 0
  · exact .inl ht
  · refine .inr (fun q hq hx e => ?_)
    have h2 := List.any_eq_false.1 h q hq
    simp [hsB, ht, e, hx] at h2

theorem sil_succ {t : Int} {S : List Sq} {k : Nat} {q : Sq} (h : S[k]? = some q) : silS t (S.take (k + 1)) = if 6 ≤ t - q.heard then silS t (S.take k) ++ [q.id] else silS t (S.take k) := by
  obtain ⟨hl, rfl⟩ := List.getElem?_eq_some_iff.1 h
  unfold silS
  rw [List.take_succ_eq_append_getElem hl, List.filter_append, List.map_append]
  by_cases hc : 6 ≤ t - S[k].heard
  · rw [if_pos hc, List.filter_cons_of_pos (by simpa using hc)]
    rfl
  · rw [if_neg hc, List.filter_cons_of_neg (by simpa using hc)]
    simp

theorem sil_len (t : Int) (S : List Sq) : (silS t S).length ≤ S.length := by
  unfold silS
  rw [List.length_map]
  exact List.length_filter_le _ _

end Go.Proofs.YtjmainefmiefcaaGreat
