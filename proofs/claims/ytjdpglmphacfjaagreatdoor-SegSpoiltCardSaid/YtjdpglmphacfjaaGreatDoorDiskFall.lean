/-
  The walk of file.Disk's Fall.
-/
import Derived.Test.YtjdpglmphacfjaaGreatDoorDiskNames
import Derived.LoopTactic
namespace Go.Proofs.YtjdpglmphacfjaaGreatDoor
open Go.RowKit Go.Maps Go.Sort

theorem perm_lift {α β : Type} (g : α → β) : ∀ (L : List α) {N : List β}, N.Perm (L.map g) → ∃ L' : List α, L'.Perm L ∧ L'.map g = N := by
  intro L N hp
  generalize hN : L.map g = K at hp
  induction hp generalizing L with
  | nil => exact ⟨[], by simp at hN; subst hN; exact .refl _, rfl⟩
  | cons x _ ih =>
    cases L with
    | nil => cases hN
    | cons e L =>
      simp at hN
      obtain ⟨L', h1, h2⟩ := ih L hN.2
      exact ⟨e :: L', h1.cons e, by simp [h2, hN.1]⟩
  | swap x y l =>
    match L, hN with
    | e1 :: e2 :: L, hN =>
      simp at hN
      exact ⟨e2 :: e1 :: L, .swap _ _ _, by simp [hN]⟩
  | trans _ _ ih1 ih2 =>
    obtain ⟨L2, h1, h2⟩ := ih2 L hN
    obtain ⟨L3, h3, h4⟩ := ih1 L2 h2
    exact ⟨L3, h3.trans h1, h4⟩

theorem DiskIs.perm {w : World} {b room : Nat} {mb : Option Nat} {L L' : List Ent} (hd : DiskIs w b room mb L) (hL : L'.Perm L) : DiskIs w b room mb L' := by
  have hpb : (blk b mb L').Perm (blk b mb L) := ((hL.flatMap_right _).append_left _).cons _
  have ht : tot (L'.map Ent.f) = tot (L.map Ent.f) := by
    unfold tot
    exact ((hL.map Ent.f).map _).sum_nat
  exact ⟨by rw [ht]; exact hd.head, hd.map.perm (hL.map _), fun e he => hd.ents e (hL.mem_iff.1 he), hpb.nodup_iff.2 hd.apart, by rw [ht]; exact hd.room1, hd.room2, fun e he => hd.names e (hL.mem_iff.1 he)⟩

/-- A file behind a fall. -/
def fallen (n : Int) (f : Fm) : Option Fm := if 0 < (mStay n f).length ∨ f.named = true then some ⟨f.name, mStay n f, (mStay n f).length, true⟩ else none

/-- All of them. -/
def mFall (n : Int) (M : List Fm) : List Fm := M.filterMap (fallen n)

theorem mFall_tot (n : Int) : ∀ M : List Fm, tot (mFall n M) ≤ tot M
  | [] => Nat.le_refl _
  | f :: M => by
    have ih := mFall_tot n M
    have hl : (mStay n f).length ≤ f.b.length := by unfold mStay; rw [List.length_take]; omega
    unfold mFall at ih ⊢
    rw [List.filterMap_cons]
    split
    · rw [tot_cons]; omega
    · rename_i x hx
      unfold fallen at hx
      split at hx
      · cases hx
        rw [tot_cons, tot_cons]
        show (mStay n f).length + _ ≤ _
        omega
      · cases hx

theorem mFall_names (n : Int) (M : List Fm) : ∀ s ∈ (mFall n M).map Fm.name, s ∈ M.map Fm.name := by
  intro s hs
  obtain ⟨x, hx, rfl⟩ := List.mem_map.1 hs
  obtain ⟨f, hf, hfx⟩ := List.mem_filterMap.1 hx
  unfold fallen at hfx
  split at hfx
  · cases hfx
    exact List.mem_map.2 ⟨f, hf, rfl⟩
  · cases hfx

theorem mFall_perm (n : Int) {M M' : List Fm} (h : M'.Perm M) : (mFall n M').Perm (mFall n M) := h.filterMap _

theorem mFall_next (n : Int) {M : List Fm} {k : Nat} (hk : k < M.length) : mFall n (M.take (k + 1)) = mFall n (M.take k) ++ (fallen n M[k]).toList := by
  unfold mFall
  rw [List.take_succ_eq_append_getElem hk, List.filterMap_append]
  cases h : fallen n M[k] <;> simp [h]

theorem take_tot (M : List Fm) (k : Nat) : tot (M.take k) ≤ tot M := by
  have : tot M = tot (M.take k) + tot (M.drop k) := by rw [← tot_append, List.take_append_drop]
  omega

/-- The cells of a row of texts. -/
theorem strs_at {w : World} {base g n cap : Nat} {ns : List (List UInt8)} (h : w.ownsRow base 9 1 (.slice (some ⟨g, 0, none⟩) n cap) n (ns.map encStr)) {k : Nat} (hk : k < ns.length) : w.cell? ⟨g, k, none⟩ = some (.string ⟨ns[k].toArray⟩) := by
  have h1 := h.cells (g := g) rfl k (encStr ns[k]) (by simp [hk])
  rw [Addr.add_lit, Nat.zero_add] at h1
  exact h1

set_option maxHeartbeats 4000000 in
set_option maxRecDepth 100000 in
theorem fall_raw {b room : Nat} {l : List Nat} {M : List Fm} (n : Int) (hn : -9223372036854775808 ≤ n ∧ n ≤ 9223372036854775807) (w : World) (h : DiskM w b room l M) (hfew : M.length ≤ 8000000000000) :
    Calls Tryz.prog 21 #[.pointer (some ⟨b, 0, none⟩), .int .i64 n] w fun e w' => ∃ bb l' M', e = .returned (.pointer (some ⟨bb, 0, none⟩)) ∧ DiskM w' bb room l' M' ∧ M'.Perm (mFall n M) ∧ Below w.heap.size w w' ∧ ∀ i ∈ l', w.heap.size ≤ i := by
  have hD := Lib.hid h
  have HFew := Lib.hid hfew
  have hroom := h.total
  have hro : roomOf (room : Int) = room := by unfold roomOf; omega
  obtain ⟨mb, L, hd, rfl, rfl⟩ := h
  have hbl := lt_of_heap hd.head
  obtain ⟨c0, -, c2, -, -, -⟩ := three_cells hd.head
  have HD := Lib.hid hd
  have HRO := Lib.hid hro
  have HRM := Lib.hid hroom
  clear hd hfew hroom hro
  go_enter Tryz.func21, Tryz.ntmps21
  go_wp2_with fail
  refine (new_calls (room : Int) _).mono ?_
  rintro e w1 ⟨rfl, hb, hb1⟩
  rw [HRO.out] at hb
  have B1 := Lib.hid hb1
  have HB := Lib.hid hb
  have HD1 := Lib.hid (hD.out.belowAll hb1)
  have k0 := (hb1.cell (p := ⟨b, 0, none⟩) hbl).trans c0
  clear hb hb1 c0
  go_wp2_with fail
  refine (names_calls _ HD1.out HFew.out).mono ?_
  rintro e w2 ⟨v, ss, rfl, hperm, hrow, hb2⟩
  obtain ⟨LL, hLL, hns⟩ : ∃ LL : List Ent, LL.Perm L ∧ LL.map (fun e => e.f.name) = sortedN ss := by
    refine perm_lift (fun e : Ent => e.f.name) L ?_
    have h1 : (sortedN ss).Perm ss := List.mergeSort_perm _ _
    refine h1.trans (hperm.trans (List.Perm.of_eq ?_))
    rw [List.map_map]
    rfl
  have hlen : (sortedN ss).length = ss.length := (List.mergeSort_perm _ _).length_eq
  generalize sortedN ss = ns at *
  rw [← hlen] at hrow
  have B2 := Lib.hid (B1.out.trans (hb2.mono B1.out.size))
  have HB2 := Lib.hid (HB.out.belowAll hb2)
  have HLL := Lib.hid hLL
  have HNS := Lib.hid hns
  have HROW := Lib.hid hrow
  have hsz1 : w.heap.size < w1.heap.size := HB.out.lt w.heap.size (by simp)
  clear hb2 hperm hlen hD HB HD1 k0 B1 hLL hns
  rcases hrow with ⟨hl0, ⟨rfl, h0⟩ | ⟨g, cap, cur, rfl, hg0, -, hgle, hgm, -, -⟩⟩
  · obtain rfl : ns = [] := by cases ns with | nil => rfl | cons a t => simp at h0
    obtain rfl : LL = [] := List.map_eq_nil_iff.1 HNS.out
    clear hl0 h0
    go_wp2_with fail
    refine wp_loop_rounds 1 ?_
    rw [rounds_succ]
    go_wp2
    go_ret
    exact ⟨w.heap.size, _, _, rfl, HB2.out, (mFall_perm n (HLL.out.map Ent.f)), B2.out, by simp⟩
  · have hgs : g < w2.heap.size := (HROW.out.lt g rfl).2
    have hN : ns.length = LL.length := by rw [← HNS.out]; simp
    clear hl0
    obtain ⟨N, hNN⟩ : ∃ N, N = ns.length := ⟨_, rfl⟩
    rw [← hNN] at hgle
    have HN := Lib.hid hNN
    have HNL := Lib.hid hN
    rw [show Value.slice (some ⟨g, 0, none⟩) ns.length cap = Value.slice (some ⟨g, 0, none⟩) N cap by rw [hNN]]
    have hmax : N ≤ 9223372036854775807 := by unfold maxLen at hgm; omega
    clear hN hNN
    go_wp2_with fail
    go_loopw [20] (fun i wr => ∃ (k : Nat) (lb : List Nat), k ≤ N ∧ i = .int .i64 k ∧ DiskM wr w.heap.size room lb (mFall n ((LL.map Ent.f).take k)) ∧ wr.ownsRow w1.heap.size 9 1 (.slice (some ⟨g, 0, none⟩) ns.length cap) ns.length (ns.map encStr) ∧ Below w.heap.size w wr ∧ ∀ i ∈ lb, w.heap.size ≤ i ∧ g ≠ i) (fun i _ => N - (intOf i).toNat)
    case atStart => exact ⟨0, _, by omega, rfl, HB2.out, HROW.out, B2.out, fun i hi => by simp at hi; subst hi; exact ⟨Nat.le_refl _, by omega⟩⟩
    case round =>
      obtain ⟨k, lb, hk, rfl, hbh, hrow3, hb3, hlb⟩ := hrel
      have HBH := Lib.hid hbh
      have HROW3 := Lib.hid hrow3
      have B3 := Lib.hid hb3
      have HLB := Lib.hid hlb
      clear hbh hrow3 hb3 hlb
      by_cases hlt : k < N
      · have hkl : k < LL.length := by rw [← HNL.out, ← HN.out]; exact hlt
        have hkn : k < ns.length := by rw [← HN.out]; exact hlt
        have hdr := (HD.out.turn (Turn.of_below B3.out []) (by simp)).perm HLL.out
        have hmem : LL[k] ∈ LL := List.getElem_mem hkl
        have hnk : ns[k] = LL[k].f.name := by simp [← HNS.out]
        have q1 := strs_at HROW3.out hkn
        rw [hnk] at q1
        have q2 := (B3.out.cell (p := ⟨b, 2, none⟩) hbl).trans c2
        have hokn := hdr.names _ hmem
        have q3 := hdr.map.look (n := LL[k].f.name) (by have := okName_len hokn; unfold maxLen; omega)
        have hloc : locOf (LL.map Ent.key) LL[k].f.name = some ⟨LL[k].c, 0, none⟩ := locE_some hdr.nodup hmem
        rw [hloc] at q3
        have hent := hdr.ents _ hmem
        have htl : tot (LL.map Ent.f) = tot (L.map Ent.f) := by
          unfold tot
          exact ((HLL.out.map Ent.f).map _).sum_nat
        have hle1 : LL[k].f.b.length ≤ tot (LL.map Ent.f) := by
          have h1 : LL.map Ent.f = (LL.take k).map Ent.f ++ LL[k].f :: (LL.drop (k + 1)).map Ent.f := by
            rw [← List.map_cons, ← List.map_append, List.getElem_cons_drop, List.take_append_drop]
          rw [h1, tot_append, tot_cons]
          omega
        have hnext := mFall_next n (M := LL.map Ent.f) (k := k) (by simpa using hkl)
        rw [List.getElem_map] at hnext
        have hfr : (fallen n LL[k].f).toList = if 0 < (mStay n LL[k].f).length ∨ LL[k].f.named = true then [synced (longer ⟨LL[k].f.name, [], 0, false⟩ (mStay n LL[k].f))] else [] := by
          unfold fallen
          split <;> simp [synced, longer]
        rw [hfr] at hnext
        have htt : tot (mFall n ((LL.map Ent.f).take k)) + (mStay n LL[k].f).length ≤ room := by
          have h1 := HRM.out
          have h2 : tot (mFall n ((LL.map Ent.f).take k)) ≤ tot ((LL.map Ent.f).take k) := mFall_tot n _
          have h3 := take_tot (LL.map Ent.f) (k + 1)
          rw [List.take_succ_eq_append_getElem (by simpa using hkl), tot_append, List.getElem_map] at h3
          have h4 : tot [LL[k].f] = LL[k].f.b.length := by simp [tot]
          have h5 : (mStay n LL[k].f).length ≤ LL[k].f.b.length := by unfold mStay; rw [List.length_take]; omega
          omega
        have hnot : LL[k].f.name ∉ (mFall n ((LL.map Ent.f).take k)).map Fm.name := by
          intro h1
          have h2 := mFall_names n _ _ h1
          rw [← List.map_take, List.map_map] at h2
          obtain ⟨x, hx, hxn⟩ := List.mem_map.1 h2
          obtain ⟨j, hj, rfl⟩ := List.mem_iff_getElem.1 hx
          have hj' : j < k := by simp at hj; omega
          have h3 := hdr.nodup
          rw [List.nodup_iff_pairwise_ne, List.pairwise_iff_getElem] at h3
          have h4 := h3 j k (by simp; omega) (by simpa using hkl) hj'
          simp at h4 hxn
          exact h4 hxn
        have hcs := (three_cells (Exists.choose_spec hent).1).2.2.1
        have HE := Lib.hid hent
        have HEL := Lib.hid (show LL[k].f.b.length ≤ 1048576 by have := HRM.out; omega)
        have HEB := Lib.hid (fun i (hi : LL[k].r = some i) => show i < w.heap.size from HD.out.lt i (by
          have h1 : LL[k] ∈ L := HLL.out.mem_iff.1 hmem
          simp only [blk, List.mem_cons, List.mem_append, List.mem_flatMap]
          exact .inr (.inr ⟨_, h1, by simp [Ent.blocks, hi]⟩)))
        have HOP := Lib.hid (show OpenTo (mFall n ((LL.map Ent.f).take k)) LL[k].f.name (mFall n ((LL.map Ent.f).take k)) ⟨LL[k].f.name, [], 0, false⟩ [] from .inr ⟨rfl, rfl, rfl, hnot⟩)
        have HOK := Lib.hid hokn
        have HTOT := Lib.hid htt
        have HNEXT := Lib.hid hnext
        clear hkn hdr hmem hnk hokn hloc hent htl hle1 hnext hfr htt hnot
        generalize LL[k] = e0 at *
        obtain ⟨nb, hnb⟩ : ∃ nb, nb = (mStay n e0.f).length := ⟨_, rfl⟩
        obtain ⟨nm, hnm⟩ : ∃ nm, nm = e0.f.named := ⟨_, rfl⟩
        rw [← hnm] at hcs
        have D2 := Lib.hid hcs
        have HNB := Lib.hid hnb.symm
        have HNM := Lib.hid hnm
        have hnbm : nb ≤ 1048576 := by rw [hnb]; unfold mStay; rw [List.length_take]; have := HEL.out; omega
        have HYES := Lib.hid (fun (h : 0 < nb) => show 0 < (mStay n e0.f).length ∨ e0.f.named = true from .inl (by rw [← hnb]; exact h))
        clear hkl hcs hnb hnm
        by_cases hpos : 0 < nb
        · have p1 : (0 : Int) < (nb : Int) := by omega
          go_wp2_with fail
          refine (stays_calls n hn HE.out HEL.out).mono ?_
          rintro e w4 ⟨ao, c, rfl, hsl, hbk, ht4⟩
          rw [HNB.out]
          have HS4 := Lib.hid (hsl.turn ht4 (by simp))
          have HBK := Lib.hid hbk
          have HBH4 := Lib.hid (HBH.out.turn ht4 (by simp))
          have B4 := Lib.hid (B3.out.trans (ht4.belowAll.mono B3.out.size))
          have d4 := ht4.cell (Hid.out D2) (by simp)
          have HROW4 := Lib.hid (ownsRow_turn HROW3.out ht4 (by simp))
          have hz4 := ht4.size
          clear hsl hbk ht4 q1
          go_wp2_with fail
          have hc5 := append_any (ao := ao) (c := c) (bs := mStay n e0.f) _ HBH4.out HOP.out HOK.out HS4.out (fun x hx hne hm => by have h1 := HBK.out x hx hne; have h2 := (HLB.out _ hm).1; have h3 := HEB.out _ h1.symm; omega) HTOT.out
          rw [HNB.out] at hc5
          refine hc5.mono ?_
          clear hc5
          rintro e w5 ⟨rfl, ht5, lb5, hd5, hl5⟩
          have HD5 := Lib.hid hd5
          have HL5 := Lib.hid hl5
          have B5 := Lib.hid (B4.out.trans (ht5.below (fun i hi => (HLB.out i hi).1) B4.out.size))
          have HROW5 := Lib.hid (ownsRow_turn HROW4.out ht5 (fun k hk hm => (HLB.out _ hm).2 (by simpa [Value.ownBlock] using hk)))
          clear hd5 hl5 ht5 d4
          go_wp2_with fail
          refine (sync_some (M2 := []) _ HD5.out).mono ?_
          rintro e w6 ⟨rfl, hd6, ht6⟩
          have HD6 := Lib.hid hd6
          have B6 := Lib.hid (B5.out.trans (ht6.below (fun i hi => by rcases HL5.out i hi with h | h; exact (HLB.out i h).1; have := B4.out.size; omega) B5.out.size))
          have HROW6 := Lib.hid (ownsRow_turn HROW5.out ht6 (fun k hk hm => by
            have hkg : g = k := by simpa [Value.ownBlock] using hk
            rcases HL5.out _ hm with h | h
            · exact (HLB.out _ h).2 hkg
            · have := (HROW3.out.lt g rfl).2; omega))
          clear hd6 ht6
          go_wp2
          go_roundw
          case rel =>
            refine ⟨k + 1, lb5, by omega, by go_num, ?_, HROW6.out, B6.out, fun i hi => ?_⟩
            · have hn1 := HNEXT.out
              rw [if_pos (HYES.out hpos)] at hn1
              rw [hn1]
              exact HD6.out
            · rcases HL5.out i hi with h | h
              · exact HLB.out i h
              · have h1 := (HROW3.out.lt g rfl).2
                have h2 := B3.out.size
                exact ⟨by omega, by omega⟩
          case measure => simp [intOf]; omega
        · have p1 : ¬ (0 : Int) < (nb : Int) := by omega
          have p2 : decide ((0 : Int) < (nb : Int)) = false := by simpa using hpos
          cases nm with
          | true =>
            go_wp2_with fail
            refine (stays_calls n hn HE.out HEL.out).mono ?_
            rintro e w4 ⟨ao, c, rfl, hsl, hbk, ht4⟩
            rw [HNB.out]
            have HS4 := Lib.hid (hsl.turn ht4 (by simp))
            have HBK := Lib.hid hbk
            have HBH4 := Lib.hid (HBH.out.turn ht4 (by simp))
            have B4 := Lib.hid (B3.out.trans (ht4.belowAll.mono B3.out.size))
            have d4 := ht4.cell (Hid.out D2) (by simp)
            have HROW4 := Lib.hid (ownsRow_turn HROW3.out ht4 (by simp))
            have hz4 := ht4.size
            clear hsl hbk ht4 q1
            go_wp2_with fail
            have hc5 := append_any (ao := ao) (c := c) (bs := mStay n e0.f) _ HBH4.out HOP.out HOK.out HS4.out (fun x hx hne hm => by have h1 := HBK.out x hx hne; have h2 := (HLB.out _ hm).1; have h3 := HEB.out _ h1.symm; omega) HTOT.out
            rw [HNB.out] at hc5
            refine hc5.mono ?_
            clear hc5
            rintro e w5 ⟨rfl, ht5, lb5, hd5, hl5⟩
            have HD5 := Lib.hid hd5
            have HL5 := Lib.hid hl5
            have B5 := Lib.hid (B4.out.trans (ht5.below (fun i hi => (HLB.out i hi).1) B4.out.size))
            have HROW5 := Lib.hid (ownsRow_turn HROW4.out ht5 (fun k hk hm => (HLB.out _ hm).2 (by simpa [Value.ownBlock] using hk)))
            clear hd5 hl5 ht5 d4
            go_wp2_with fail
            refine (sync_some (M2 := []) _ HD5.out).mono ?_
            rintro e w6 ⟨rfl, hd6, ht6⟩
            have HD6 := Lib.hid hd6
            have B6 := Lib.hid (B5.out.trans (ht6.below (fun i hi => by rcases HL5.out i hi with h | h; exact (HLB.out i h).1; have := B4.out.size; omega) B5.out.size))
            have HROW6 := Lib.hid (ownsRow_turn HROW5.out ht6 (fun k hk hm => by
              have hkg : g = k := by simpa [Value.ownBlock] using hk
              rcases HL5.out _ hm with h | h
              · exact (HLB.out _ h).2 hkg
              · have := (HROW3.out.lt g rfl).2; omega))
            clear hd6 ht6
            go_wp2
            go_roundw
            case rel =>
              refine ⟨k + 1, lb5, by omega, by go_num, ?_, HROW6.out, B6.out, fun i hi => ?_⟩
              · have hn1 := HNEXT.out
                rw [if_pos (Or.inr HNM.out.symm)] at hn1
                rw [hn1]
                exact HD6.out
              · rcases HL5.out i hi with h | h
                · exact HLB.out i h
                · have h1 := (HROW3.out.lt g rfl).2
                  have h2 := B3.out.size
                  exact ⟨by omega, by omega⟩
            case measure => simp [intOf]; omega
          | false =>
            go_wp2_with fail
            refine (stays_calls n hn HE.out HEL.out).mono ?_
            rintro e w4 ⟨ao, c, rfl, -, -, ht4⟩
            rw [HNB.out]
            have HBH4 := Lib.hid (HBH.out.turn ht4 (by simp))
            have B4 := Lib.hid (B3.out.trans (ht4.belowAll.mono B3.out.size))
            have d4 := ht4.cell (Hid.out D2) (by simp)
            have HROW4 := Lib.hid (ownsRow_turn HROW3.out ht4 (by simp))
            clear ht4 q1
            go_wp2
            go_roundw
            case rel =>
              refine ⟨k + 1, lb, by omega, by go_num, ?_, HROW4.out, B4.out, HLB.out⟩
              have hn1 := HNEXT.out
              rw [if_neg (by rw [HNB.out, ← HNM.out]; simp; omega), List.append_nil] at hn1
              rw [hn1]
              exact HBH4.out
            case measure => simp [intOf]; omega
      · have hkk : k = N := by omega
        have HKK := Lib.hid hkk
        clear hkk
        go_wp2
        go_ret
        refine ⟨w.heap.size, _, _, rfl, HBH.out, ?_, B3.out, fun i hi => (HLB.out i hi).1⟩
        rw [HKK.out, HN.out, HNL.out, List.take_of_length_le (by simp)]
        exact mFall_perm n (HLL.out.map Ent.f)

/-- Another disk, behind a fall. -/
theorem fall_calls {b room : Nat} {l : List Nat} {M : List Fm} (n : Int) (hn : -9223372036854775808 ≤ n ∧ n ≤ 9223372036854775807) (w : World) (h : DiskM w b room l M) (hfew : M.length ≤ 8000000000000) :
    Calls Tryz.prog 21 #[.pointer (some ⟨b, 0, none⟩), .int .i64 n] w fun e w' => ∃ bb l', e = .returned (.pointer (some ⟨bb, 0, none⟩)) ∧ DiskM w' bb room l' (mFall n M) ∧ Below w.heap.size w w' ∧ ∀ i ∈ l', w.heap.size ≤ i := by
  refine (fall_raw n hn w h hfew).mono ?_
  rintro e w' ⟨bb, l', M', rfl, hd, hp, hb, hl⟩
  obtain ⟨l2, hd2, hl2⟩ := hd.perm hp.symm
  exact ⟨bb, l2, rfl, hd2, hb, fun i hi => hl i ((hl2 i).1 hi)⟩

end Go.Proofs.YtjdpglmphacfjaaGreatDoor
