/-
  A log of several segments on a disk: what each segment has; adding, leaving, making sure, falling, opening; the law's own 'eq'.
-/
import Derived.Test.YtjdpglmphacfjaaGreatDoorSegPut
import Derived.Test.YtjdpglmphacfjaaGreatDoorOpenTx
namespace Go.Proofs.YtjdpglmphacfjaaGreatDoor
open Go.RowKit

theorem frs_le {T : List (List UInt8)} {n : Nat} (h : ∀ t ∈ T, t.length ≤ n) : (frs T).length ≤ (n + 6) * T.length := by
  induction T with
  | nil => simp [frs_nil]
  | cons t T ih =>
    rw [frs_cons, List.length_append, frB_length, List.length_cons, Nat.mul_succ]
    have := ih (fun x hx => h x (by simp [hx]))
    have := h t (by simp)
    omega

theorem frs_empty {T : List (List UInt8)} (h : frs T = []) : T = [] := by
  cases T with
  | nil => rfl
  | cons t T =>
    have := congrArg List.length h
    rw [frs_cons, List.length_append, frB_length] at this
    simp at this

theorem name0 : (⟨#[108, 111, 103, 48, 48, 48]⟩ : ByteArray) = ⟨(segName 0).toArray⟩ := rfl

theorem mApp_tot {M : List Fm} (n bs : List UInt8) (hnd : (M.map Fm.name).Nodup) : tot (mApp n bs M) = tot M + bs.length := by
  unfold mApp
  by_cases hh : hasF M n = true
  · rw [if_pos hh]
    obtain ⟨A, g, B, rfl, rfl⟩ := hasF_split hh
    rw [mUp_split _ hnd]
    simp only [tot_append, tot_cons, longer, List.length_append]
    omega
  · rw [if_neg hh, tot_append]
    simp [tot]

theorem bytesOf_cons (f : Fm) (M : List Fm) (m : List UInt8) : bytesOf (f :: M) m = if f.name = m then f.b else bytesOf M m := by
  unfold bytesOf
  rw [List.find?_cons]
  by_cases h : f.name = m
  · simp [h]
  · have : (f.name == m) = false := by simpa using h
    rw [this, if_neg h]

theorem hasF_cons (f : Fm) (M : List Fm) (m : List UInt8) : hasF (f :: M) m = (f.name == m || hasF M m) := rfl

theorem bytesOf_syn (n m : List UInt8) : ∀ M, bytesOf (synM M n) m = bytesOf M m
  | [] => rfl
  | f :: M => by
    have ih := bytesOf_syn n m M
    have e : synM (f :: M) n = (if f.name == n then synced f else f) :: synM M n := rfl
    rw [e, bytesOf_cons, bytesOf_cons, ih]
    by_cases h : f.name = n
    · simp [h, synced]
    · have : (f.name == n) = false := by simpa using h
      rw [this]
      rfl

theorem hasF_syn (n m : List UInt8) : ∀ M, hasF (synM M n) m = hasF M m
  | [] => rfl
  | f :: M => by
    have ih := hasF_syn n m M
    have e : synM (f :: M) n = (if f.name == n then synced f else f) :: synM M n := rfl
    rw [e, hasF_cons, hasF_cons, ih]
    by_cases h : f.name = n
    · simp [h, synced]
    · have : (f.name == n) = false := by simpa using h
      rw [this]
      rfl

theorem tot_syn (n : List UInt8) : ∀ M, tot (synM M n) = tot M
  | [] => rfl
  | f :: M => by
    have ih := tot_syn n M
    have e : synM (f :: M) n = (if f.name == n then synced f else f) :: synM M n := rfl
    rw [e, tot_cons, tot_cons, ih]
    by_cases h : f.name = n
    · simp [h, synced]
    · have : (f.name == n) = false := by simpa using h
      rw [this]
      rfl

theorem names_syn (n : List UInt8) : ∀ M, (synM M n).map Fm.name = M.map Fm.name
  | [] => rfl
  | f :: M => by
    have ih := names_syn n M
    have e : synM (f :: M) n = (if f.name == n then synced f else f) :: synM M n := rfl
    rw [e, List.map_cons, List.map_cons, ih]
    by_cases h : f.name = n
    · simp [h, synced]
    · have : (f.name == n) = false := by simpa using h
      rw [this]
      rfl

theorem bytesOf_longer (n bs m : List UInt8) : ∀ M, bytesOf (mUp n (fun f => longer f bs) M) m = if m = n ∧ hasF M n = true then bytesOf M n ++ bs else bytesOf M m
  | [] => by simp [mUp, bytesOf, hasF]
  | f :: M => by
    have ih := bytesOf_longer n bs m M
    have e : mUp n (fun f => longer f bs) (f :: M) = (if f.name == n then longer f bs else f) :: mUp n (fun f => longer f bs) M := rfl
    rw [e, bytesOf_cons, ih, hasF_cons, bytesOf_cons, bytesOf_cons]
    by_cases h : f.name = n
    · subst h
      by_cases hm : f.name = m
      · simp [hm, longer]
      · have : ¬ m = f.name := fun e => hm e.symm
        simp [hm, this, longer]
    · have hb : (f.name == n) = false := by simpa using h
      rw [hb]
      by_cases hm : m = n
      · subst hm
        simp [h]
      · simp [hm]

theorem hasF_longer (n bs m : List UInt8) : ∀ M, hasF (mUp n (fun f => longer f bs) M) m = hasF M m
  | [] => rfl
  | f :: M => by
    have ih := hasF_longer n bs m M
    have e : mUp n (fun f => longer f bs) (f :: M) = (if f.name == n then longer f bs else f) :: mUp n (fun f => longer f bs) M := rfl
    rw [e, hasF_cons, hasF_cons, ih]
    by_cases h : f.name = n
    · simp [h, longer]
    · have : (f.name == n) = false := by simpa using h
      rw [this]
      rfl

theorem bytesOf_last (f : Fm) (m : List UInt8) : ∀ M, bytesOf (M ++ [f]) m = if hasF M m = true then bytesOf M m else if f.name = m then f.b else []
  | [] => by
    rw [List.nil_append, bytesOf_cons]
    simp [hasF, bytesOf]
  | g :: M => by
    have ih := bytesOf_last f m M
    rw [List.cons_append, bytesOf_cons, ih, bytesOf_cons, hasF_cons]
    by_cases h : g.name = m
    · simp [h]
    · have : (g.name == m) = false := by simpa using h
      simp [h]

theorem hasF_last (f : Fm) (m : List UInt8) (M : List Fm) : hasF (M ++ [f]) m = (hasF M m || f.name == m) := by
  unfold hasF
  rw [List.any_append]
  simp

theorem bytesOf_app (n bs m : List UInt8) (M : List Fm) : bytesOf (mApp n bs M) m = if m = n then bytesOf M n ++ bs else bytesOf M m := by
  unfold mApp
  by_cases h : hasF M n = true
  · rw [if_pos h, bytesOf_longer]
    simp [h]
  · have h' : hasF M n = false := by simpa using h
    rw [if_neg h, bytesOf_last]
    by_cases hm : m = n
    · subst hm
      rw [if_neg h, if_pos rfl, if_pos rfl, bytesOf_not h']
      rfl
    · rw [if_neg hm]
      by_cases h2 : hasF M m = true
      · rw [if_pos h2]
      · rw [if_neg h2, if_neg (fun e => hm e.symm), bytesOf_not (by simpa using h2)]

theorem hasF_app (n bs m : List UInt8) (M : List Fm) : hasF (mApp n bs M) m = (hasF M m || n == m) := by
  unfold mApp
  by_cases h : hasF M n = true
  · rw [if_pos h, hasF_longer]
    by_cases hm : n = m
    · subst hm; simp [h]
    · simp [hm]
  · rw [if_neg h, hasF_last]

theorem ok_seg : ∀ n, n < 40 → okName (segName n) = true := by decide

theorem readS_ok {room num n : Nat} {M : List Fm} (h : (unfr (bytesOf M (segName n))).2.2 = 0) : readS room num M n = (0, (unfr (bytesOf M (segName n))).1, M) := by
  unfold readS
  rw [if_neg (by omega), if_pos h]

theorem readS_mid {room num n : Nat} {M : List Fm} (h : (unfr (bytesOf M (segName n))).2.2 = 2) (hn : n < num) : readS room num M n = (3, [], M) := by
  unfold readS
  rw [if_pos h, if_pos hn]

theorem readS_bad {room num n : Nat} {M : List Fm} (h : (unfr (bytesOf M (segName n))).2.2 = 3) : readS room num M n = (3, [], M) := by
  unfold readS
  rw [if_neg (by omega), if_neg (by omega), h]
  rfl

/-- The texts of k segments, from the n-th on. -/
def catS (S : Nat → List (List UInt8)) : Nat → Nat → List (List UInt8)
  | _, 0 => []
  | n, k + 1 => S n ++ catS S (n + 1) k

theorem catS_nil {S : Nat → List (List UInt8)} : ∀ k n, (∀ j, n ≤ j → j < n + k → S j = []) → catS S n k = []
  | 0, _, _ => rfl
  | k + 1, n, h => by
    rw [catS, h n (by omega) (by omega), catS_nil k (n + 1) (fun j h1 h2 => h j (by omega) (by omega))]
    rfl

theorem catS_add (S : Nat → List (List UInt8)) : ∀ k m n, catS S n (k + m) = catS S n k ++ catS S (n + k) m
  | 0, m, n => by rw [Nat.zero_add]; rfl
  | k + 1, m, n => by
    rw [show k + 1 + m = (k + m) + 1 by omega, catS, catS_add S k m (n + 1), catS, List.append_assoc, show n + 1 + k = n + (k + 1) by omega]

theorem catS_eq {S S' : Nat → List (List UInt8)} : ∀ k n, (∀ j, n ≤ j → j < n + k → S j = S' j) → catS S n k = catS S' n k
  | 0, _, _ => rfl
  | k + 1, n, h => by
    rw [catS, catS, h n (by omega) (by omega), catS_eq k (n + 1) (fun j h1 h2 => h j (by omega) (by omega))]

theorem openGo_segs {room num : Nat} {M : List Fm} {S : Nat → List (List UInt8)} (h : ∀ j, j ≤ 999 → bytesOf M (segName j) = frs (S j)) (hok : ∀ j t, t ∈ S j → okF t = true) :
    ∀ k n T, n + k ≤ 1000 → openGo room num k n T M = (0, T ++ catS S n k, M)
  | 0, n, T, _ => by rw [openGo, catS, List.append_nil]
  | k + 1, n, T, hk => by
    have hu := unfr_whole (hok n)
    have hr : readS room num M n = (0, S n, M) := by
      rw [readS_ok (by rw [h n (by omega), hu]), h n (by omega), hu]
    rw [openGo, hr, if_pos rfl]
    show openGo room num k (n + 1) (T ++ S n) M = _
    rw [openGo_segs h hok k (n + 1) _ (by omega), catS, List.append_assoc]

theorem lastK_above (M : List Fm) (lo : Nat) : ∀ k j, lastK M lo k < j → j ≤ lo + k → hasF M (segName j) = false
  | 0, j, h1, h2 => by
    unfold lastK at h1
    omega
  | k + 1, j, h1, h2 => by
    unfold lastK at h1
    by_cases hh : hasF M (segName (lo + (k + 1))) = true
    · rw [if_pos hh] at h1
      omega
    · rw [if_neg hh] at h1
      by_cases hj : j = lo + (k + 1)
      · rw [hj]
        simpa using hh
      · exact lastK_above M lo k j h1 (by omega)

theorem lastK_most {M : List Fm} {lo a : Nat} (hn : ∀ j, a < j → j ≤ 999 → hasF M (segName j) = false) (ha : lo ≤ a) : ∀ k, lo + k ≤ 999 → lastK M lo k ≤ a
  | 0, _ => by unfold lastK; exact ha
  | k + 1, hk => by
    unfold lastK
    by_cases hh : hasF M (segName (lo + (k + 1))) = true
    · rw [if_pos hh]
      apply Decidable.byContradiction
      intro hc
      rw [hn (lo + (k + 1)) (by omega) (by omega)] at hh
      cases hh
    · rw [if_neg hh]
      exact lastK_most hn ha k (by omega)

/-- The segments up to the a-th have these texts; all but the last one are sure. -/
structure Sg (M : List Fm) (a : Nat) (S : Nat → List (List UInt8)) : Prop where
  bytes : ∀ j, j ≤ 999 → bytesOf M (segName j) = frs (S j)
  none : ∀ j, a < j → j ≤ 999 → hasF M (segName j) = false
  ok : ∀ j t, t ∈ S j → okF t = true
  off : ∀ j, 999 < j → S j = []
  names : ∀ f ∈ M, ∃ j, j ≤ a ∧ f.name = segName j
  sure : ∀ f ∈ M, f.name = segName a ∨ (f.sure = f.b.length ∧ f.named = true)

theorem Sg.above {M : List Fm} {a : Nat} {S : Nat → List (List UInt8)} (h : Sg M a S) {j : Nat} (hj : a < j) : S j = [] := by
  by_cases h9 : j ≤ 999
  · have h1 := h.bytes j h9
    rw [bytesOf_not (h.none j hj h9)] at h1
    exact frs_empty h1.symm
  · exact h.off j (by omega)

theorem Sg.del {M : List Fm} {a : Nat} {S : Nat → List (List UInt8)} (h : Sg M a S) : mDel newName M = M := by
  refine mDel_not (fun hm => ?_)
  obtain ⟨f, hf, he⟩ := List.mem_map.1 hm
  obtain ⟨j, -, hj⟩ := h.names f hf
  rw [hj] at he
  exact segName_new j he

theorem Sg.open {M : List Fm} {a : Nat} {S : Nat → List (List UInt8)} (h : Sg M a S) (ha : a ≤ 999) (room : Nat) {lo : Nat} (hlo : lo ≤ a) :
    openF room M lo = (0, catS S lo (a + 1 - lo), M) ∧ openAt M lo ≤ a ∧ lo ≤ openAt M lo := by
  obtain ⟨p, hp⟩ : ∃ p, p = openAt M lo := ⟨_, rfl⟩
  have hpe : p = lastK M lo (999 - lo) := by rw [hp, openAt, h.del]; rfl
  have h1 : p ≤ a := by rw [hpe]; exact lastK_most h.none hlo _ (by omega)
  have h2 : lo ≤ p := by rw [hpe]; exact lastK_ge M lo _
  have h3 : ∀ j, p < j → S j = [] := by
    intro j hj
    by_cases h9 : j ≤ 999
    · have h4 := lastK_above M lo (999 - lo) j (by rw [← hpe]; exact hj) (by omega)
      have h5 := h.bytes j h9
      rw [bytesOf_not h4] at h5
      exact frs_empty h5.symm
    · exact h.off j (by omega)
  refine ⟨?_, by rw [← hp]; exact h1, by rw [← hp]; exact h2⟩
  unfold openF
  rw [h.del, ← hp, openGo_segs h.bytes h.ok _ _ _ (by omega), List.nil_append, show a + 1 - lo = (p + 1 - lo) + (a - p) by omega, catS_add, catS_nil (a - p) _ (fun j h4 _ => h3 j (by omega)), List.append_nil]

def updS (S : Nat → List (List UInt8)) (a : Nat) (b : List UInt8) : Nat → List (List UInt8) := fun j => if j = a then S a ++ [b] else S j

theorem catS_upd {M : List Fm} {a : Nat} {S : Nat → List (List UInt8)} (_h : Sg M a S) (b : List UInt8) (lo : Nat) (hlo : lo ≤ a) : catS (updS S a b) lo (a + 1 - lo) = catS S lo (a + 1 - lo) ++ [b] := by
  rw [show a + 1 - lo = (a - lo) + 1 by omega, catS_add, catS_add, show lo + (a - lo) = a by omega, catS_eq (a - lo) lo (S := updS S a b) (S' := S) (fun j _ h2 => by unfold updS; rw [if_neg (by omega)])]
  rw [catS, catS, catS, catS, List.append_nil, List.append_nil, List.append_assoc]
  congr 1
  unfold updS
  rw [if_pos rfl]

theorem Sg.add {M : List Fm} {a : Nat} {S : Nat → List (List UInt8)} (h : Sg M a S) (ha : a ≤ 999) {b : List UInt8} (hb : okF b = true) : Sg (mApp (segName a) (frB b) M) a (updS S a b) := by
  refine ⟨fun j hj => ?_, fun j h1 h2 => ?_, fun j t ht => ?_, fun j hj => ?_, fun f hf => ?_, fun f hf => ?_⟩
  · rw [bytesOf_app]
    unfold updS
    by_cases hja : j = a
    · rw [if_pos (by rw [hja]), if_pos hja, frs_append, frs_one, h.bytes a ha]
    · rw [if_neg (fun e => hja (segName_inj hj ha e)), if_neg hja, h.bytes j hj]
  · rw [hasF_app, h.none j h1 h2]
    have : ¬ segName a = segName j := fun e => by have := segName_inj ha h2 e; omega
    simpa using this
  · unfold updS at ht
    by_cases hja : j = a
    · rw [if_pos hja] at ht
      rcases List.mem_append.1 ht with h1 | h1
      · exact h.ok a t h1
      · simp at h1; rw [h1]; exact hb
    · rw [if_neg hja] at ht
      exact h.ok j t ht
  · unfold updS
    rw [if_neg (by omega)]
    exact h.off j hj
  · unfold mApp at hf
    split at hf
    · obtain ⟨g, hg, he⟩ := List.mem_map.1 hf
      obtain ⟨j, h1, h2⟩ := h.names g hg
      refine ⟨j, h1, ?_⟩
      rw [← he]
      split
      · exact h2
      · exact h2
    · rcases List.mem_append.1 hf with hf | hf
      · exact h.names f hf
      · simp only [List.mem_singleton] at hf
        exact ⟨a, Nat.le_refl _, by rw [hf]⟩
  · unfold mApp at hf
    split at hf
    · obtain ⟨g, hg, he⟩ := List.mem_map.1 hf
      by_cases hgn : g.name = segName a
      · rw [if_pos (by simpa using hgn)] at he
        exact .inl (by rw [← he]; exact hgn)
      · rw [if_neg (by simpa using hgn)] at he
        rw [← he]
        exact h.sure g hg
    · rcases List.mem_append.1 hf with hf | hf
      · exact h.sure f hf
      · simp only [List.mem_singleton] at hf
        exact .inl (by rw [hf])

/-- Behind a sync of the last one all is sure. -/
theorem Sg.force {M : List Fm} {a : Nat} {S : Nat → List (List UInt8)} (h : Sg M a S) : Sg (synM M (segName a)) a S ∧ ∀ f ∈ synM M (segName a), f.sure = f.b.length ∧ f.named = true := by
  have hall : ∀ f ∈ synM M (segName a), f.sure = f.b.length ∧ f.named = true := by
    intro f hf
    obtain ⟨g, hg, he⟩ := List.mem_map.1 hf
    by_cases hgn : g.name = segName a
    · rw [if_pos (by simpa using hgn)] at he
      rw [← he]
      exact ⟨rfl, rfl⟩
    · rw [if_neg (by simpa using hgn)] at he
      rw [← he]
      rcases h.sure g hg with h1 | h1
      · exact absurd h1 hgn
      · exact h1
  refine ⟨⟨fun j hj => by rw [bytesOf_syn]; exact h.bytes j hj, fun j h1 h2 => by rw [hasF_syn]; exact h.none j h1 h2, h.ok, h.off, fun f hf => ?_, fun f hf => .inr (hall f hf)⟩, hall⟩
  have hm : f.name ∈ (synM M (segName a)).map Fm.name := List.mem_map_of_mem hf
  rw [names_syn] at hm
  obtain ⟨g, hg, he⟩ := List.mem_map.1 hm
  rw [← he]
  exact h.names g hg

theorem Sg.next {M : List Fm} {a : Nat} {S : Nat → List (List UInt8)} (h : Sg M a S) : Sg (synM M (segName a)) (a + 1) S := by
  obtain ⟨h1, h2⟩ := h.force
  exact ⟨h1.bytes, fun j h3 h4 => h1.none j (by omega) h4, h1.ok, h1.off, fun f hf => by
    obtain ⟨j, h3, h4⟩ := h1.names f hf
    exact ⟨j, by omega, h4⟩, fun f hf => .inr (h2 f hf)⟩

theorem Sg.empty : Sg [] 0 (fun _ => []) := ⟨fun _ _ => rfl, fun _ _ _ => rfl, fun _ _ h => by simp at h, fun _ _ => rfl, fun _ h => by simp at h, fun _ h => by simp at h⟩

theorem Sg.cat_next {M : List Fm} {a : Nat} {S : Nat → List (List UInt8)} (h : Sg M a S) {lo : Nat} (hlo : lo ≤ a + 1) : catS S lo (a + 1 + 1 - lo) = catS S lo (a + 1 - lo) := by
  rw [show a + 1 + 1 - lo = (a + 1 - lo) + 1 by omega, catS_add, catS_nil 1 _ (fun j h1 _ => h.above (by omega)), List.append_nil]

/-- A disk of which all is sure stays as it is. -/
theorem fall_same (n : Int) : ∀ {M : List Fm}, (∀ f ∈ M, f.sure = f.b.length ∧ f.named = true) → mFall n M = M
  | [], _ => rfl
  | f :: M, h => by
    obtain ⟨h1, h2⟩ := h f (by simp)
    have h0 : mStay n f = f.b := by unfold mStay; rw [h1]; exact List.take_of_length_le (by omega)
    have e : fallen n f = some f := by
      unfold fallen
      rw [if_pos (.inr h2), h0, ← h1]
      obtain ⟨_, _, _, _⟩ := f
      simp at h2
      subst h2
      rfl
    have ih := fall_same n (M := M) (fun g hg => h g (by simp [hg]))
    unfold mFall at ih ⊢
    rw [List.filterMap_cons, e, ih]

theorem app_big {M : List Fm} {a : Nat} {b : List UInt8} (hnd : (M.map Fm.name).Nodup) (ha : a < 40) (h : tot M + 6 + b.length ≤ rBig) :
    appE rBig M (segName a) (frB b) = 0 ∧ appM rBig M (segName a) (frB b) = mApp (segName a) (frB b) M ∧ tot (mApp (segName a) (frB b) M) = tot M + 6 + b.length := by
  have hok := ok_seg a ha
  unfold appE appM
  rw [if_pos hok, if_pos hok, frB_length, if_neg (by omega), if_neg (by omega), mApp_tot _ _ hnd, frB_length]
  exact ⟨rfl, rfl, by omega⟩

theorem nodup_few {α : Type} [DecidableEq α] : ∀ (l r : List α), l.Nodup → (∀ x ∈ l, x ∈ r) → l.length ≤ r.length
  | [], _, _, _ => Nat.zero_le _
  | x :: l, r, hn, hs => by
    have hx := hs x (by simp)
    have hn2 := List.nodup_cons.1 hn
    have h1 := nodup_few l (r.erase x) hn2.2 (fun y hy => (List.mem_erase_of_ne (fun e => hn2.1 (by rw [← e]; exact hy))).2 (hs y (by simp [hy])))
    have h2 := List.length_erase_of_mem hx
    have h3 := List.length_pos_of_mem hx
    rw [List.length_cons]
    omega

/-- As many files at most as there are numbers. -/
theorem seg_few {M : List Fm} {lo a : Nat} (hnd : (M.map Fm.name).Nodup) (h : ∀ f ∈ M, ∃ j, lo ≤ j ∧ j ≤ a ∧ f.name = segName j) : M.length ≤ a + 1 - lo := by
  have h1 := nodup_few (M.map Fm.name) ((List.range (a + 1 - lo)).map fun i => segName (lo + i)) hnd (fun x hx => by
    obtain ⟨f, hf, rfl⟩ := List.mem_map.1 hx
    obtain ⟨j, h1, h2, h3⟩ := h f hf
    refine List.mem_map.2 ⟨j - lo, List.mem_range.2 (by omega), ?_⟩
    rw [h3, show lo + (j - lo) = j by omega])
  simpa using h1

theorem Lg.nodup {L : List Nat} {wq w : World} {lb d room num : Nat} {T : List (List UInt8)} {M : List Fm} (h : Lg L wq w lb d room num T M) : (M.map Fm.name).Nodup := by
  obtain ⟨_, _, _, _, _, v, l, _, hd, _, _⟩ := h
  exact hd.nodup

/-- A fall of a disk of which all is sure: another one, in new blocks, with the same files. -/
theorem fall_new {w : World} {b room : Nat} {l : List Nat} {M : List Fm} (n : Int) (hn : -9223372036854775808 ≤ n ∧ n ≤ 9223372036854775807) (h : DiskM w b room l M) (hs : ∀ f ∈ M, f.sure = f.b.length ∧ f.named = true) (hfew : M.length ≤ 8000000000000) :
    Calls Tryz.prog 21 #[.pointer (some ⟨b, 0, none⟩), .int .i64 n] w fun e w' => ∃ bb, e = .returned (.pointer (some ⟨bb, 0, none⟩)) ∧ Dk w w' bb room M := by
  refine (fall_calls n hn w h hfew).mono ?_
  rintro e w' ⟨bb, l', rfl, hd, hb, hl⟩
  rw [fall_same n hs] at hd
  exact ⟨bb, rfl, hb, l', hd, hl⟩

/-! ### The law's own eq -/
theorem Txs.tl {w : World} {P : Nat → Prop} {ao : Option Addr} {n cap : Nat} {T : List (List UInt8)} (h : Txs w P (.slice ao n cap) T) : n = T.length ∧ Tl w ao cap T := by
  obtain ⟨ao1, cap1, hv, hcap, hmx, hcase⟩ := h.form
  injection hv with e1 e2 e3
  subst e1 e2 e3
  refine ⟨rfl, ?_⟩
  rcases hcase with ⟨rfl, hT, hc⟩ | ⟨g, rfl⟩
  · exact .inl ⟨rfl, hc, hT⟩
  · refine .inr ⟨⟨g, 0, none⟩, rfl, hcap, hmx, fun i hi => ?_⟩
    obtain ⟨a', c', h1, h2⟩ := h.at hi
    have hg : T.getD i [] = T[i] := by simp [List.getD, hi]
    rw [hg]
    rw [Addr.add_lit, Nat.zero_add]
    exact ⟨a', c', h1, h2⟩

theorem Tl.take {w : World} {ao : Option Addr} {c : Nat} {l : List (List UInt8)} (h : Tl w ao c l) (k : Nat) : Tl w ao c (l.take k) := by
  rcases h with ⟨h1, h2, h3⟩ | ⟨A, h1, h2, h3, h4⟩
  · exact .inl ⟨h1, h2, by rw [h3]; simp⟩
  · refine .inr ⟨A, h1, by rw [List.length_take]; omega, h3, fun i hi => ?_⟩
    rw [List.length_take] at hi
    have hg : (l.take k).getD i [] = l.getD i [] := by
      simp only [List.getD]
      rw [List.getElem?_take_of_lt (by omega)]
    rw [hg]
    exact h4 i (by omega)

theorem Tl.turn {w w' : World} {ao : Option Addr} {c : Nat} {l : List (List UInt8)} (h : Tl w ao c l) (hb : Below w.heap.size w w') : Tl w' ao c l := by
  rcases h with ⟨h1, h2, h3⟩ | ⟨A, h1, h2, h3, h4⟩
  · exact .inl ⟨h1, h2, h3⟩
  · refine .inr ⟨A, h1, h2, h3, fun i hi => ?_⟩
    obtain ⟨a', c', h5, h6⟩ := h4 i hi
    exact ⟨a', c', (Turn.of_below hb []).cell h5 (by simp), h6.belowAll hb⟩

set_option maxHeartbeats 2000000 in
theorem eq_calls (a0 : Option Addr) (c0 : Nat) (a1 : Option Addr) (c1 : Nat) (l : List (List UInt8)) (w : World) (h0 : Tl w a0 c0 l) (h1 : Tl w a1 c1 l) :
    Calls Tryz.prog 15 #[.slice a0 l.length c0, .slice a1 l.length c1] w fun e w' => e = .returned (.bool true) ∧ Below w.heap.size w w' := by
  have H0 := Lib.hid h0
  have H1 := Lib.hid h1
  have hlen := h0.len
  obtain ⟨n, hn⟩ : ∃ n, n = l.length := ⟨_, rfl⟩
  rw [← hn] at hlen ⊢
  have HN := Lib.hid hn
  clear h0 h1 hn
  go_enter Tryz.func15, Tryz.ntmps15
  go_wp2_with fail
  go_loopw [5] (fun v wr => ∃ k : Nat, k ≤ n ∧ v = .int .i64 (k : Int) ∧ Turn [] w wr) (fun v _ => n - (intOf v).toNat)
  case atStart => exact ⟨0, by omega, rfl, Turn.refl _ _⟩
  case round =>
    obtain ⟨k, hk, rfl, ht⟩ := hrel
    have HT := Lib.hid ht
    clear ht
    by_cases hlt : k < n
    · have r2 : (k : Int) < (n : Int) := by omega
      have hkl : k < l.length := by rw [← HN.out]; exact hlt
      obtain ⟨b0, o0, rfl, -, hp0⟩ := H0.out.at (by intro e; rw [e] at hkl; simp at hkl)
      obtain ⟨b1, o1, rfl, -, hp1⟩ := H1.out.at (by intro e; rw [e] at hkl; simp at hkl)
      obtain ⟨x0, y0, hd0, hs0⟩ := hp0 k hkl
      obtain ⟨x1, y1, hd1, hs1⟩ := hp1 k hkl
      have hc0 := HT.out.cell hd0 (by simp)
      have hc1 := HT.out.cell hd1 (by simp)
      have q0 := fun nq : Nat => conv_sl (w := wr.drewN nq) (hs0.turn (HT.out.trans (Turn.drewN [] wr nq) (by simp)) (by simp)) rfl
      have q1 := fun nq : Nat => conv_sl (w := wr.drewN nq) (hs1.turn (HT.out.trans (Turn.drewN [] wr nq) (by simp)) (by simp)) rfl
      clear hp0 hp1 hs0 hs1 hd0 hd1
      generalize l.getD k [] = x at *
      generalize x.length = nx at *
      go_wp2_with fail
      go_quiet (fail)
      go_wp2
      go_roundw
      case rel => exact ⟨k + 1, by omega, by go_num, HT.out.trans (Turn.drewN [] wr nq) (by simp)⟩
      case measure => simp [intOf]; omega
    · obtain rfl : k = n := by omega
      have r3 : ¬ (k : Int) < (k : Int) := by omega
      go_wp2
      go_ret
      exact ⟨rfl, HT.out.belowAll⟩

end Go.Proofs.YtjdpglmphacfjaaGreatDoor
