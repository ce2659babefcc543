/-
  A torn log: what stands of a front of frames; what Open makes of one segment alone, whole or torn; the next texts behind it.
-/
import Derived.Test.YtjdpglmphacfjaaGreatDoorSegMore
namespace Go.Proofs.YtjdpglmphacfjaaGreatDoor
open Go.RowKit

/-- A front of a row of frames: the texts that are whole in it. -/
theorem unfr_front {T : List (List UInt8)} (h : ∀ t ∈ T, okF t = true) {n k : Nat} (hn : n ≤ T.length) (h1 : (frs (T.take n)).length ≤ k) (h2 : n = T.length ∨ k < (frs (T.take (n + 1))).length) :
    (unfr ((frs T).take k)).1 = T.take n ∧ ((unfr ((frs T).take k)).2.2 = 0 ∧ (frs T).take k = frs (T.take n) ∨ (unfr ((frs T).take k)).2.2 = 2 ∧ (unfr ((frs T).take k)).2.1 = (frs (T.take n)).length) ∧ ((frs T).take k).take (frs (T.take n)).length = frs (T.take n) := by
  have hA : ∀ t ∈ T.take n, okF t = true := fun t ht => h t (List.mem_of_mem_take ht)
  have hw := unfr_whole hA
  have hT : frs T = frs (T.take n) ++ frs (T.drop n) := by rw [← frs_append, List.take_append_drop]
  have hsplit : (frs T).take k = frs (T.take n) ++ (frs (T.drop n)).take (k - (frs (T.take n)).length) := by
    rw [hT, List.take_append, List.take_of_length_le h1]
  have hback : ((frs T).take k).take (frs (T.take n)).length = frs (T.take n) := by
    rw [hsplit, List.take_append_of_le_length (Nat.le_refl _), List.take_length]
  rcases h2 with h2 | h2
  · have he : T.take n = T := by rw [h2, List.take_length]
    rw [he] at h1 hw hback ⊢
    have hkk : (frs T).take k = frs T := List.take_of_length_le h1
    rw [hkk] at hback ⊢
    rw [hw]
    exact ⟨rfl, .inl ⟨rfl, rfl⟩, hback⟩
  · by_cases hnl : n = T.length
    · have he : T.take n = T := by rw [hnl, List.take_length]
      rw [he] at h1 hw hback ⊢
      have hkk : (frs T).take k = frs T := List.take_of_length_le h1
      rw [hkk] at hback ⊢
      rw [hw]
      exact ⟨rfl, .inl ⟨rfl, rfl⟩, hback⟩
    · have hlt : n < T.length := by omega
      have ht : okF T[n] = true := h _ (List.getElem_mem hlt)
      have hd : T.drop n = T[n] :: T.drop (n + 1) := List.drop_eq_getElem_cons hlt
      have hs : T.take (n + 1) = T.take n ++ [T[n]] := by rw [List.take_succ_eq_append_getElem hlt]
      rw [hs, frs_append, frs_one, List.length_append] at h2
      obtain ⟨r, hr⟩ : ∃ r, r = k - (frs (T.take n)).length := ⟨_, rfl⟩
      have hrl : r < (frB T[n]).length := by omega
      have hfr : (frs (T.drop n)).take r = (frB T[n]).take r := by
        rw [hd, frs_cons, List.take_append_of_le_length (by omega)]
      rw [← hr, hfr] at hsplit
      by_cases h0 : r = 0
      · have e : (frs T).take k = frs (T.take n) := by rw [hsplit, h0, List.take_zero, List.append_nil]
        rw [e] at hback ⊢
        rw [hw]
        exact ⟨rfl, .inl ⟨rfl, rfl⟩, hback⟩
      · have hu := unfr_torn hA ht (by omega : 0 < r) hrl
        rw [← hsplit] at hu
        rw [hu]
        exact ⟨rfl, .inr ⟨rfl, rfl⟩, hback⟩

def oneS (bs : List UInt8) (s : Nat) (nm : Bool) : List Fm := [⟨segName 0, bs, s, nm⟩]

theorem oneS_at (bs : List UInt8) (s : Nat) (nm : Bool) : openAt (oneS bs s nm) 0 = 0 ∧ mDel newName (oneS bs s nm) = oneS bs s nm ∧ bytesOf (oneS bs s nm) (segName 0) = bs := ⟨by kernel_rfl, by kernel_rfl, by kernel_rfl⟩

theorem oneS_left (bs h : List UInt8) (s : Nat) (nm : Bool) : openAt (oneS bs s nm ++ [⟨newName, h, 0, false⟩]) 0 = 0 ∧ mDel newName (oneS bs s nm ++ [⟨newName, h, 0, false⟩]) = oneS bs s nm := ⟨by kernel_rfl, by kernel_rfl⟩

theorem ok_new : okName newName = true := by decide
theorem ok_zero : okName (segName 0) = true := by decide

theorem oneS_new (bs : List UInt8) (s : Nat) (nm : Bool) : hasF (oneS bs s nm) newName = false := by kernel_rfl
theorem oneS_has (bs : List UInt8) (s : Nat) (nm : Bool) : hasF (oneS bs s nm) (segName 0) = true := by kernel_rfl

theorem tot_oneS (bs : List UInt8) (s : Nat) (nm : Bool) : tot (oneS bs s nm) = bs.length := by simp [oneS, tot]

theorem app_new {bs u : List UInt8} {s : Nat} {nm : Bool} (h : bs.length + u.length ≤ rBig) : appE rBig (oneS bs s nm) newName u = 0 ∧ appM rBig (oneS bs s nm) newName u = oneS bs s nm ++ [⟨newName, u, 0, false⟩] := by
  unfold appE appM mApp
  rw [if_pos ok_new, if_pos ok_new, tot_oneS, if_neg (by omega), if_neg (by omega), oneS_new]
  exact ⟨rfl, rfl⟩

theorem app_one {bs u : List UInt8} {s : Nat} {nm : Bool} (h : bs.length + u.length ≤ rBig) : appE rBig (oneS bs s nm) (segName 0) u = 0 ∧ appM rBig (oneS bs s nm) (segName 0) u = oneS (bs ++ u) s nm := by
  have e : mUp (segName 0) (fun f => longer f u) (oneS bs s nm) = oneS (bs ++ u) s nm := by simp [mUp, oneS, longer]
  unfold appE appM mApp
  rw [if_pos ok_zero, if_pos ok_zero, tot_oneS, if_neg (by omega), if_neg (by omega), oneS_has, if_pos rfl, e]
  exact ⟨rfl, rfl⟩

theorem app_none {u : List UInt8} (h : u.length ≤ rBig) : appE rBig [] (segName 0) u = 0 ∧ appM rBig [] (segName 0) u = oneS u 0 false := by
  unfold appE appM
  rw [if_pos ok_zero, if_pos ok_zero, if_neg (by simp [tot]; omega), if_neg (by simp [tot]; omega)]
  exact ⟨rfl, rfl⟩

theorem add_one {bs : List UInt8} {s : Nat} {nm : Bool} (h : bs.length < 2000) : addTo (oneS bs s nm) 0 = 0 ∧ addM (oneS bs s nm) 0 = oneS bs s nm := by
  unfold addTo addM
  rw [(oneS_at bs s nm).2.2, if_neg (by omega), if_neg (by omega)]
  exact ⟨rfl, rfl⟩

theorem sure_one (bs : List UInt8) : ∀ f ∈ oneS bs bs.length true, f.sure = f.b.length ∧ f.named = true := by
  intro f hf
  simp only [oneS, List.mem_singleton] at hf
  rw [hf]
  exact ⟨rfl, rfl⟩

theorem syn_one (bs : List UInt8) (s : Nat) (nm : Bool) : synM (oneS bs s nm) (segName 0) = oneS bs bs.length true := by kernel_rfl

/-- The file is written anew. -/
theorem rew_one {bs u : List UInt8} {s : Nat} {nm : Bool} (h : bs.length + u.length ≤ rBig) : rew rBig (oneS bs s nm) (segName 0) u = (0, oneS u u.length true) := by
  obtain ⟨h1, h2⟩ := app_new (s := s) (nm := nm) h
  have h3 : synE (oneS bs s nm ++ [⟨newName, u, 0, false⟩]) newName = 0 := by kernel_rfl
  have h4 : synM (oneS bs s nm ++ [⟨newName, u, 0, false⟩]) newName = oneS bs s nm ++ [⟨newName, u, u.length, true⟩] := by kernel_rfl
  have h5 : renE (oneS bs s nm ++ [⟨newName, u, u.length, true⟩]) newName (segName 0) = 0 := by kernel_rfl
  have h6 : renM (oneS bs s nm ++ [⟨newName, u, u.length, true⟩]) newName (segName 0) = oneS u u.length true := by kernel_rfl
  unfold rew
  rw [h1, h2, if_pos rfl, h3, if_pos rfl, h4, h5, h6]

/-- What Open makes of one segment. -/
theorem open_one {Mg : List Fm} {bs : List UInt8} {s : Nat} {nm : Bool} (hat : openAt Mg 0 = 0) (hdel : mDel newName Mg = oneS bs s nm) (hl : bs.length ≤ 500000) :
    ((unfr bs).2.2 = 0 → openF rBig Mg 0 = (0, (unfr bs).1, oneS bs s nm)) ∧
    ((unfr bs).2.2 = 2 → openF rBig Mg 0 = (0, (unfr bs).1, oneS (bs.take (unfr bs).2.1) (bs.take (unfr bs).2.1).length true)) ∧
    ((unfr bs).2.2 = 3 → (openF rBig Mg 0).1 = 3) := by
  obtain ⟨-, -, hb⟩ := oneS_at bs s nm
  have e : openF rBig Mg 0 = openGo rBig 0 1 0 [] (oneS bs s nm) := by unfold openF; rw [hat, hdel]
  rw [e, openGo]
  refine ⟨fun h => ?_, fun h => ?_, fun h => ?_⟩
  · have hr : readS rBig 0 (oneS bs s nm) 0 = (0, (unfr bs).1, oneS bs s nm) := by rw [readS_ok (by rw [hb]; exact h), hb]
    rw [hr, if_pos rfl]
    rfl
  · have hlt : (bs.take (unfr bs).2.1).length ≤ bs.length := by rw [List.length_take]; omega
    have hw := rew_one (bs := bs) (u := bs.take (unfr bs).2.1) (s := s) (nm := nm) (by unfold rBig; omega)
    have hr : readS rBig 0 (oneS bs s nm) 0 = (0, (unfr bs).1, oneS (bs.take (unfr bs).2.1) (bs.take (unfr bs).2.1).length true) := by
      unfold readS
      rw [hb, if_pos h, if_neg (by omega), hw]
      rfl
    rw [hr, if_pos rfl]
    rfl
  · rw [readS_bad (by rw [hb]; exact h), if_neg (by simp)]

/-- A front of a log, opened: the texts that are whole in it; the file has just their frames. -/
theorem tear_open {Mg : List Fm} {T : List (List UInt8)} (h : ∀ t ∈ T, okF t = true) {n k : Nat} (hat : openAt Mg 0 = 0) (hdel : mDel newName Mg = oneS ((frs T).take k) 0 false) (hn : n ≤ T.length) (h1 : (frs (T.take n)).length ≤ k) (h2 : n = T.length ∨ k < (frs (T.take (n + 1))).length) (hl : (frs T).length ≤ 500000) :
    ∃ s nm, openF rBig Mg 0 = (0, T.take n, oneS (frs (T.take n)) s nm) := by
  obtain ⟨hu1, hu2, hu3⟩ := unfr_front h hn h1 h2
  obtain ⟨o1, o2, -⟩ := open_one hat hdel (by rw [List.length_take]; omega)
  rcases hu2 with ⟨e, hb⟩ | ⟨e, hs⟩
  · have := o1 e
    rw [hu1, hb] at this
    exact ⟨_, _, this⟩
  · have := o2 e
    rw [hu1, hs, hu3] at this
    exact ⟨_, _, this⟩

/-- Append of bytes that are none of the disk's, where there are any. -/
theorem dk_append_free {wq w0 w : World} {b room : Nat} {M : List Fm} {n bs : List UInt8} {ao : Option Addr} {c : Nat} (h : Dk wq w0 b room M) (hn : n.length ≤ 9223372036854775807) (ht : Turn [] w0 w) (hs : Sl w ao c bs) (ha : ∀ A, ao = some A → bs ≠ [] → A.block < wq.heap.size ∨ w0.heap.size ≤ A.block) :
    Calls Tryz.prog 20 #[.pointer (some ⟨b, 0, none⟩), .string ⟨n.toArray⟩, .slice ao bs.length c] w fun e w' => e = .returned (.int .i64 (appE room M n bs)) ∧ Dk wq w' b room (appM room M n bs) := by
  obtain ⟨h1, l, h2, h3⟩ := h
  refine (append_fn w (h2.turn ht (by simp)) hn hs (fun x hx hne hm => ?_)).mono ?_
  · have h4 := h2.lt _ hm
    have h5 := h3 _ hm
    rcases ha x hx hne with h6 | h6 <;> omega
  · rintro e w' ⟨rfl, ht', l', hd, hl⟩
    refine ⟨rfl, (h1.trans (ht.belowAll.mono h1.size)).trans (ht'.below h3 (Nat.le_trans h1.size ht.size)), l', hd, fun i hi => ?_⟩
    rcases hl i hi with h | h
    · exact h3 i h
    · have := h1.size; have := ht.size; omega

def i64l (l : List Nat) : List Value := l.map fun (n : Nat) => Value.int .i64 (n : Int)

theorem i64l_length (l : List Nat) : (i64l l).length = l.length := by simp [i64l]

theorem Tryz.introw : (Tryz.prog.info? 3).map (fun i => (i.zero, i.size, i.bytes)) = some (some (.int .i64 0), 1, 8) := by kernel_rfl

/-- 'append(x, n)'. -/
theorem append_num {w : World} {ops : Array Oper} {rest : List Oper} {o : Oper} {a : Act} {Q : Exit → Act → World → Prop} (hgd : o.guard = none) (s x : Operand)
    (ho : o.op = .call { callee := .builtin .append, args := #[s, x], argTypes := #[22, 22] })
    (v : Value) (l : List Nat) (n : Nat) (hn : n = l.length) (hs : a.eval s = v) (hq : w.ownsRow 0 3 1 v n (i64l l))
    (g0 : Nat) (c : Nat) (y : Nat) (hx : a.eval x = .slice (some ⟨g0, 0, none⟩) 1 c) (hy : w.cell? ⟨g0, 0, none⟩ = some (.int .i64 (y : Int)))
    (hlen : n ≤ 1000)
    (h : ∀ v' w', w'.ownsRow 0 3 1 v' (n + 1) (i64l (l ++ [y])) → w.grownBy w' v.ownBlock → (v'.ownBlock = v.ownBlock ∨ v'.ownBlock = some w.heap.size) → wpList Tryz.prog ops Q rest (a.put o.dst v') w') : wpList Tryz.prog ops Q (o :: rest) a w := by
  obtain ⟨i0, hi, hz0, hz1, hz2⟩ := info_parts Tryz.introw
  subst hn
  refine wpList_append_own_at w hgd s x 22 ho 0 3 i0 (.int .i64 0) 1 8 Tryz.underlying22 hi hz0 hz1 hz2 rfl (by decide) v l.length (i64l l) hs hq ⟨g0, 0, none⟩ 1 c [.int .i64 (y : Int)] hx rfl ?_ (by simp [Value.oneCell']) (by unfold maxLen; omega) (by omega) (Nat.zero_le _) ?_
  · intro j u hj
    rcases j with _ | j
    · simp at hj
      subst hj
      exact hy
    · simp at hj
  · intro v' w' h1 h2 _ h4
    exact h v' w' (by simpa [i64l] using h1) h2 h4

theorem owns_slice {w : World} {B e s n : Nat} {v : Value} {xs : List Value} (h : w.ownsRow B e s v n xs) : ∃ ao c, v = .slice ao n c := by
  rcases h.2 with ⟨rfl, h0⟩ | ⟨g, cap, cur, rfl, _⟩
  · subst h0
    exact ⟨none, 0, rfl⟩
  · exact ⟨_, cap, rfl⟩

/-- What stands at a place of a row of numbers. -/
theorem nums_at {w : World} {k c : Nat} {a : Option Addr} {l : List Nat} (h : w.ownsRow 0 3 1 (.slice a k c) k (i64l l)) {i : Nat} (hi : i < k) :
    ∃ g, a = some ⟨g, 0, none⟩ ∧ g < w.heap.size ∧ w.cell? ⟨g, i, none⟩ = some (.int .i64 ((l.getD i 0 : Nat) : Int)) := by
  rcases h.2 with ⟨h', h0⟩ | ⟨g, cap, cur, hv, hB, hh, _⟩
  · omega
  · simp only [Value.slice.injEq, true_and] at hv
    obtain ⟨rfl, rfl⟩ := hv
    refine ⟨g, rfl, lt_of_heap hh, ?_⟩
    have h1 := h.1
    have hl : i < l.length := by rw [i64l_length] at h1; omega
    rw [h.cellAt i (by omega)]
    simp [i64l, List.getD, hl]

theorem getD_snoc (A : List Nat) (x i : Nat) : (A ++ [x]).getD i 0 = if i < A.length then A.getD i 0 else if i = A.length then x else 0 := by
  simp only [List.getD, List.getElem?_append]
  by_cases h : i < A.length
  · rw [if_pos h, if_pos h]
  · rw [if_neg h, if_neg h]
    by_cases h2 : i = A.length
    · rw [if_pos h2, h2, Nat.sub_self]
      rfl
    · rw [if_neg h2, List.getElem?_eq_none (by simp; omega)]
      rfl

/-- How long the frames are, text by text. -/
def endsOf (T : List (List UInt8)) : List Nat := (List.range T.length).map fun i => (frs (T.take (i + 1))).length

theorem endsOf_length (T : List (List UInt8)) : (endsOf T).length = T.length := by simp [endsOf]

theorem endsOf_at (T : List (List UInt8)) {i : Nat} (hi : i < T.length) : (endsOf T).getD i 0 = (frs (T.take (i + 1))).length := by
  simp [endsOf, List.getD, hi]

theorem endsOf_snoc (T : List (List UInt8)) (y : List UInt8) : endsOf (T ++ [y]) = endsOf T ++ [(frs (T ++ [y])).length] := by
  unfold endsOf
  rw [List.length_append, List.length_singleton, List.range_succ, List.map_append]
  congr 1
  · refine List.map_congr_left (fun i hi => ?_)
    have := List.mem_range.1 hi
    rw [List.take_append_of_le_length (by omega)]
  · simp [List.take_of_length_le]

/-! ### The law's last region: the worlds of its orders -/

theorem Turn.al {l : List Nat} {y w : World} {o : Obj} (h : Turn l y w) : Turn l y (w.alloc o) := h.trans (Turn.alloc [] w o) (by simp)
theorem Turn.dr {l : List Nat} {y w : World} (h : Turn l y w) : Turn l y w.drew := h.trans (Turn.drew [] w) (by simp)
theorem Turn.via {l : List Nat} {y w w' : World} (t : Turn [] w w') (h : Turn l y w) : Turn l y w' := h.trans t (by simp)

theorem own_ge {y w : World} {v : Value} (h : ∀ k, v.ownBlock = some k → k = w.heap.size) (t : Turn [] y w) : ∀ k, v.ownBlock = some k → y.heap.size ≤ k := fun k hk => by rw [h k hk]; exact t.size

theorem ne_old {w : World} {v : Value} {z : Nat} (h : ∀ k, v.ownBlock = some k → k = w.heap.size) (hz : z < w.heap.size) : v.ownBlock ≠ some z := fun e => by have := h z e; omega
theorem ne_new {w : World} {v : Value} {z : Nat} (h : ∀ k, v.ownBlock = some k → k < w.heap.size) (hz : w.heap.size ≤ z) : v.ownBlock ≠ some z := fun e => by have := h z e; omega

theorem tl_keep {y w w' : World} {v : Value} {a : Option Addr} {c : Nat} {V : List (List UInt8)} (h : Tl y a c V) (t1 : Turn [] y w) (t2 : Turn v.ownBlock.toList w w') (ho : ∀ k, v.ownBlock = some k → y.heap.size ≤ k) : Tl w' a c V :=
  h.turn (t1.belowAll.trans (t2.below (fun k hk => ho k (Option.mem_toList.1 hk)) t1.size))

theorem below_keep {y w w' : World} {v : Value} (t1 : Turn [] y w) (t2 : Turn v.ownBlock.toList w w') (ho : ∀ k, v.ownBlock = some k → y.heap.size ≤ k) : Below y.heap.size y w' :=
  t1.belowAll.trans (t2.below (fun k hk => ho k (Option.mem_toList.1 hk)) t1.size)

theorem cell_al {w : World} {x : Value} {t : TypeId} {b : Nat} (h : b = w.heap.size) : (w.alloc (.cells #[x] t)).cell? ⟨b, 0, none⟩ = some x := by
  rw [h, cell_of_row _ _ _ _ _ _ (heap_alloc_new w (.cells #[x] t))]
  rfl

theorem sl_al {w : World} {b : Nat} (h : b = w.heap.size) : Sl (w.alloc (.cells #[.int .u8 122] 5 (1, 2))) (some ⟨b, 0, none⟩) 1 [122] := by
  rw [h]
  exact Sl.marked w #[.int .u8 122] 5 (1, 2) [122] rfl (by decide)

theorem cell_up {w w' : World} {a : Addr} {x : Value} (t : Turn [] w w') (h : w.cell? a = some x) : w'.cell? a = some x := t.cell h (by simp)
theorem sl_up {w w' : World} {ao : Option Addr} {c : Nat} {b : List UInt8} (t : Turn [] w w') (h : Sl w ao c b) : Sl w' ao c b := h.turn t (by simp)
theorem txs_up {w w' : World} {P : Nat → Prop} {v : Value} {T : List (List UInt8)} (t : Turn [] w w') (h : Txs w P v T) : Txs w' P v T := h.turn t (by simp)

theorem Tl.ys {w : World} {A : Addr} {l : List (List UInt8)} (h : ∀ i, i < l.length → ∃ a' c', w.cell? (A.add i) = some (.slice a' (l.getD i []).length c') ∧ Sl w a' c' (l.getD i [])) :
    ∃ ys : List Value, ys.length = l.length ∧ (∀ j u, ys[j]? = some u → w.cell? (A.add j) = some u) ∧ (∀ u ∈ ys, u.oneCell' = true) ∧ ∀ i (hi : i < l.length), ∃ a' c', ys[i]? = some (.slice a' l[i].length c') ∧ Sl w a' c' l[i] := by
  refine ⟨(List.range l.length).map (fun i => (w.cell? (A.add i)).getD (.bool true)), by simp, fun j u hu => ?_, fun u hu => ?_, fun i hi => ?_⟩
  · rw [List.getElem?_map] at hu
    by_cases hj : j < l.length
    · rw [List.getElem?_range hj] at hu
      obtain ⟨a', c', h1, -⟩ := h j hj
      simp only [Option.map_some, Option.some.injEq, h1, Option.getD_some] at hu
      rw [h1, hu]
    · rw [List.getElem?_eq_none (by simp; omega)] at hu
      simp at hu
  · obtain ⟨j, hj, rfl⟩ := List.mem_map.1 hu
    obtain ⟨a', c', h1, -⟩ := h j (List.mem_range.1 hj)
    rw [h1]
    rfl
  · obtain ⟨a', c', h1, h2⟩ := h i hi
    have e : l.getD i [] = l[i] := by simp [List.getD_eq_getElem?_getD, hi]
    rw [e] at h1 h2
    refine ⟨a', c', ?_, h2⟩
    rw [List.getElem?_map, List.getElem?_range hi]
    simp [h1]

/-! A conversion of a literal's row, behind other steps: its block is marked. -/
def frz (w : World) (b : Nat) : World := w.freeze ⟨b, 1, none⟩ 1

theorem frz_size (w : World) (b : Nat) : (frz w b).heap.size = w.heap.size := by
  unfold frz World.freeze
  rw [if_neg (by decide)]
  simp

theorem frz_turn (w : World) (b : Nat) : Turn [b] w (frz w b) := by
  unfold frz World.freeze
  rw [if_neg (by decide)]
  refine ⟨rfl, rfl, rfl, by simp, fun k hk hn => ?_⟩
  simp only [List.mem_singleton] at hn
  simp only [Array.getElem?_modify]
  rw [if_neg (by omega)]

theorem sl_frz {w : World} {b : Nat} (h : w.heap[b]? = some (.cells #[.int .u8 122] 5)) : Sl (frz w b) (some ⟨b, 0, none⟩) 1 [122] := by
  have h2 : (frz w b).heap[b]? = some (.cells #[.int .u8 122] 5 (1, 2)) := by
    unfold frz World.freeze
    rw [if_neg (by decide)]
    simp only [Array.getElem?_modify, h]
    rfl
  refine .inr ⟨_, rfl, Nat.le_refl _, by decide, fun i hi => ?_⟩
  have hi0 : i = 0 := by simpa using hi
  subst hi0
  rw [Addr.add_lit]
  simp [World.cell?, h2]

theorem run_frz {w : World} {b : Nat} (h : w.heap[b]? = some (.cells #[.int .u8 122] 5)) :
    (Go.convert 31 31 (.slice (some ⟨b, 0, none⟩) 1 1)).run Tryz.prog w = .ok (.slice (some ⟨b, 0, none⟩) 1 1) (frz w b) := by
  have hsh : w.shape? b = some (5, 1) := by
    unfold World.shape?
    rw [h]
    rfl
  simp [convert, run_underlying Tryz.underlying31, run_underlying Tryz.underlying5, markStringish, hsh]
  rfl

theorem Turn.fz {y w : World} {b : Nat} (h : Turn [] y w) (hb : y.heap.size ≤ b) : Turn [] y (frz w b) := h.trans (frz_turn w b) (fun i hi => .inr (by rw [List.mem_singleton.1 hi]; exact hb))

theorem txs_fz2 {w : World} {b p q : Nat} {v : Value} {T : List (List UInt8)} (h : Txs w (fun k => p ≤ k ∧ k < q) v T) (hb : b < p ∨ q ≤ b) : Txs (frz w b) (fun k => p ≤ k ∧ k < q) v T :=
  h.turn (frz_turn w b) (fun k hk hm => by have := List.mem_singleton.1 hm; omega)

theorem txs_fz3 {w : World} {b p q r : Nat} {v : Value} {T : List (List UInt8)} (h : Txs w (fun k => k < p ∨ q ≤ k ∧ k < r) v T) (h1 : p ≤ b) (h2 : b < q ∨ r ≤ b) : Txs (frz w b) (fun k => k < p ∨ q ≤ k ∧ k < r) v T :=
  h.turn (frz_turn w b) (fun k hk hm => by have := List.mem_singleton.1 hm; omega)

theorem txs_any {w : World} {P : Nat → Prop} {v : Value} {T : List (List UInt8)} (h : Txs w P v T) : Txs w (fun _ => True) v T := h.imp (fun _ _ _ => trivial)

theorem own_ge' {y w : World} {v : Value} (h : ∀ k, v.ownBlock = some k → k = w.heap.size) (t : y.heap.size ≤ w.heap.size) : ∀ k, v.ownBlock = some k → y.heap.size ≤ k := fun k hk => by rw [h k hk]; exact t

theorem tl_end {w w' : World} {p q n c : Nat} {ao : Option Addr} {v : Value} {V : List (List UInt8)} (h : Txs w (fun k => p ≤ k ∧ k < q) (.slice ao n c) V) (t : Turn v.ownBlock.toList w w') (ho : ∀ k, v.ownBlock = some k → q ≤ k) : Tl w' ao c V :=
  (h.turn t (fun k hk hm => by have := ho k (Option.mem_toList.1 hm); omega)).tl.2

/-- The first append of the region: a copy of a front of texts, in a row of its own. -/
theorem step_ap1 {ops : Array Oper} {o : Oper} {a : Act} {w : World} {K : Act → World → Prop} {Q : Exit → Act → World → Prop} {E : Prop} (hw : Region.wanted o (yielded ops a.tmps) = true) (x : Operand)
    (ho : o.op = .call { callee := .builtin .append, args := #[.const (.slice none 0 0), x], argTypes := #[34, 34] })
    (av : Option Addr) (n cv : Nat) (U : List (List UInt8)) (hx : a.eval x = .slice av n cv) (hn : U.length = n) (y : World) (hT : Tl y av cv U) (hy : Turn [] y w) (hb : n ≤ 1000)
    (h : ∀ v' w', Txs w' (fun k => k < y.heap.size ∨ w.heap.size ≤ k ∧ k < w'.heap.size) v' U → (∀ k, v'.ownBlock = some k → k = w.heap.size) → Turn [] w w' → K (a.put o.dst v') w') :
    if Region.wanted o (yielded ops a.tmps) = true then Oper.wp Tryz.prog o a w K Q else E := by
  rw [if_pos hw]
  obtain ⟨i0, hi, hz0, hz1, hz2⟩ := info_parts Tryz.slrow
  have he : a.eval (.const (.slice none 0 0)) = .slice none 0 0 := rfl
  rcases hT with ⟨rfl, rfl, rfl⟩ | ⟨A, rfl, -, -, hc⟩
  · subst hn
    have hrun := run_append_owned_none (P := Tryz.prog) (w := w) 0 34 o.type 31 i0 1 Tryz.underlying34 hi (.slice none 0 0) 0 [] (World.ownsRow_nil _ _ _ _)
    unfold Oper.wp execOp
    simp only [List.length_nil] at hx
    simp only [ho, resolve, invoke, builtin, Sem.run_bind, Sem.run_pure, Result.andThen_ok, List.map_toArray, List.map_cons, List.map_nil, he, hx, hrun]
    exact h _ _ (Txs.nil _ _) (by intro k hk; cases hk) (Turn.refl _ _)
  · obtain ⟨ys, hy1, hy2, hy3, hy4⟩ := Tl.ys hc
    obtain ⟨xs, hxs, hfin⟩ := Txs.appended (U := U) (Q := fun k => k < y.heap.size ∨ w.heap.size ≤ k) (Txs.nil w (fun _ => False)) ys hy1 (fun i hi => by
      obtain ⟨a', c', h1, h2⟩ := hy4 i hi
      exact ⟨a', c', h1, h2.turn hy (by simp), fun A hA hne => ⟨.inl (by rw [hA] at h2; exact h2.lt hne), by intro e; cases e⟩⟩) (fun _ h => h.elim) (fun _ h => .inr h)
    obtain ⟨v', w', hr, h2, h3, h4, h5⟩ := run_append_own_at (P := Tryz.prog) w 0 34 o.type 31 i0 _ 1 24 Tryz.underlying34 hi hz0 hz1 hz2 rfl (by decide) (.slice none 0 0) 0 xs hxs A n cv ys (by omega) (fun j u hu => hy.cell (hy2 j u hu) (by simp)) hy3 (by unfold maxLen; omega) (by omega) (Nat.zero_le _)
    unfold Oper.wp execOp
    simp only [ho, resolve, invoke, builtin, Sem.run_bind, Sem.run_pure, Result.andThen_ok, List.map_toArray, List.map_cons, List.map_nil, he, hx, hr]
    refine h v' w' ?_ ?_ ?_
    · rw [← hn] at h2
      have h6 := hfin v' w' h2 h3 h5
      exact h6.imp (fun k hk hq => by
        rcases hq with h7 | h7
        · exact .inl h7
        · exact .inr ⟨h7, hk⟩)
    · intro k hk
      rcases h5 with e | e
      · rw [e] at hk; cases hk
      · rw [e] at hk; exact (Option.some.inj hk).symm
    · exact Turn.grown h3 (by intro k hk; cases hk)

/-- The second: one text more. -/
theorem step_ap2 {ops : Array Oper} {o : Oper} {a : Act} {w : World} {K : Act → World → Prop} {Q : Exit → Act → World → Prop} {E : Prop} (hw : Region.wanted o (yielded ops a.tmps) = true) (s x : Operand)
    (ho : o.op = .call { callee := .builtin .append, args := #[s, x], argTypes := #[34, 34] })
    (v : Value) (U : List (List UInt8)) (t tb zb : Nat) (hv : a.eval s = v) (hx : a.eval x = .slice (some ⟨tb, 0, none⟩) 1 1) (hc : w.cell? ⟨tb, 0, none⟩ = some (.slice (some ⟨zb, 0, none⟩) 1 1))
    (hT : Txs w (fun _ => True) v U) (hz : Sl w (some ⟨zb, 0, none⟩) 1 [122]) (hne : v.ownBlock ≠ some zb) (hb : U.length = t) (ht : t ≤ 1000)
    (h : ∀ v' w', Txs w' (fun _ => True) v' (U ++ [[122]]) → Turn v.ownBlock.toList w w' → K (a.put o.dst v') w') :
    if Region.wanted o (yielded ops a.tmps) = true then Oper.wp Tryz.prog o a w K Q else E := by
  rw [if_pos hw]
  obtain ⟨i0, hi, hz0, hz1, hz2⟩ := info_parts Tryz.slrow
  obtain ⟨xs, hxs, hfin⟩ := Txs.appended (U := [[122]]) (Q := fun _ => True) hT [.slice (some ⟨zb, 0, none⟩) 1 1] rfl (fun i hi => by
    have hi0 : i = 0 := by simpa using hi
    subst hi0
    exact ⟨_, _, rfl, hz, fun A hA _ => ⟨trivial, by cases hA; exact hne⟩⟩) (fun _ _ => trivial) (fun _ _ => trivial)
  obtain ⟨v', w', hr, h2, h3, h4, h5⟩ := run_append_own_at (P := Tryz.prog) w 0 34 o.type 31 i0 _ 1 24 Tryz.underlying34 hi hz0 hz1 hz2 rfl (by decide) v U.length xs hxs ⟨tb, 0, none⟩ 1 1 [.slice (some ⟨zb, 0, none⟩) 1 1] rfl (fun j u hu => by
    match j, hu with
    | 0, hu => simp at hu; rw [← hu, Addr.add_lit]; exact hc
    | j + 1, hu => simp at hu) (by intro u hu; simp at hu; subst hu; rfl) (by unfold maxLen; omega) (by omega) (Nat.zero_le _)
  unfold Oper.wp execOp
  simp only [ho, resolve, invoke, builtin, Sem.run_bind, Sem.run_pure, Result.andThen_ok, List.map_toArray, List.map_cons, List.map_nil, hv, hx, hr]
  exact h v' w' (hfin v' w' h2 h3 h5) (Turn.grown h3 (fun k hk => .inl (by rw [hk]; simp)))

end Go.Proofs.YtjdpglmphacfjaaGreatDoor
