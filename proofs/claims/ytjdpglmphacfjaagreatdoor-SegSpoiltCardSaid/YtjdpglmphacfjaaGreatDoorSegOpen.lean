/-
  The walks of readSegment and of Open.
-/
import Derived.Test.YtjdpglmphacfjaaGreatDoorSegRewr
import Derived.Deep.CutRange
namespace Go.Proofs.YtjdpglmphacfjaaGreatDoor
open Go.RowKit

/-- What a segment tells, and what becomes of the disk. -/
def readS (room num : Nat) (M : List Fm) (n : Nat) : Int × List (List UInt8) × List Fm :=
  if (unfr (bytesOf M (segName n))).2.2 = 2 then
    (if n < num then (3, [], M) else
      (if (rew room M (segName n) ((bytesOf M (segName n)).take (unfr (bytesOf M (segName n))).2.1)).1 = 0 then
        (0, (unfr (bytesOf M (segName n))).1, (rew room M (segName n) ((bytesOf M (segName n)).take (unfr (bytesOf M (segName n))).2.1)).2)
      else ((rew room M (segName n) ((bytesOf M (segName n)).take (unfr (bytesOf M (segName n))).2.1)).1, [], (rew room M (segName n) ((bytesOf M (segName n)).take (unfr (bytesOf M (segName n))).2.1)).2)))
  else if (unfr (bytesOf M (segName n))).2.2 = 0 then (0, (unfr (bytesOf M (segName n))).1, M) else ((unfr (bytesOf M (segName n))).2.2, [], M)

theorem unfr_err : ∀ (k : Nat) (b : List UInt8), b.length ≤ k → (unfr b).2.2 = 0 ∨ (unfr b).2.2 = 2 ∨ (unfr b).2.2 = 3
  | 0, b, h => by
    have : b = [] := List.length_eq_zero_iff.1 (by omega)
    subst this
    exact .inl rfl
  | k + 1, b, h => by
    cases hc : cutR b with
    | more =>
      by_cases h0 : 0 < b.length
      · rw [unfr_more h0 hc]; exact .inr (.inl rfl)
      · have : b = [] := List.length_eq_zero_iff.1 (by omega)
        subst this
        exact .inl rfl
    | bad => rw [unfr_bad hc]; exact .inr (.inr rfl)
    | ok t =>
      have h1 := cutR_ok hc
      rw [unfr_ok hc]
      exact unfr_err k (b.drop (6 + t.length)) (by rw [List.length_drop]; omega)

/-- Every text told is a whole frame's. -/
theorem unfr_count : ∀ (k : Nat) (b : List UInt8), b.length ≤ k → (unfr b).1.length ≤ b.length
  | 0, b, h => by
    have : b = [] := List.length_eq_zero_iff.1 (by omega)
    subst this
    exact Nat.le_refl _
  | k + 1, b, h => by
    cases hc : cutR b with
    | more =>
      by_cases h0 : 0 < b.length
      · rw [unfr_more h0 hc]; simp
      · have : b = [] := List.length_eq_zero_iff.1 (by omega)
        subst this
        exact Nat.le_refl _
    | bad => rw [unfr_bad hc]; simp
    | ok t =>
      have h1 := cutR_ok hc
      rw [unfr_ok hc]
      have h2 := unfr_count k (b.drop (6 + t.length)) (by rw [List.length_drop]; omega)
      rw [List.length_drop] at h2
      show (unfr _).1.length + 1 ≤ _
      omega

/-- More texts are told: the row has grown, and stands in the log's struct. -/
theorem Lg.more {L : List Nat} {wq x6 x8 : World} {lb d room num : Nat} {T U : List (List UInt8)} {M : List Fm} {v v8 : Value} {l : List Nat} (g1 : Turn L wq x6) (g2 : Tab wq ∧ tabB ∉ L) (g3 : lb ∈ L ∨ wq.heap.size ≤ lb) (g4 : num ≤ 999)
    (hc : x6.heap[lb]? = some (.cells #[.pointer (some ⟨d, 0, none⟩), .int .i64 (num : Int), v] 61 (0, 0))) (hd : DiskM x6 d room l M) (hl : ∀ i ∈ l, (i ∈ L ∨ wq.heap.size ≤ i) ∧ i ≠ lb)
    (ht : Txs x6 (fun k => (k ∈ L ∨ wq.heap.size ≤ k) ∧ k ≠ lb ∧ k ∉ l) v T) (t8 : Turn v.ownBlock.toList x6 x8) (h8 : Txs x8 (fun k => (k ∈ L ∨ wq.heap.size ≤ k) ∧ k ≠ lb ∧ k ∉ l) v8 (T ++ U)) (hn : (T ++ U).length ≤ 1000000) :
    Lg L wq (x8.setCell ⟨lb, 2, none⟩ v8) lb d room num (T ++ U) M := by
  have hlbv : lb ∉ v.ownBlock.toList := fun hm => (ht.1 lb (by simpa using hm)).2.1 rfl
  have tS : Turn [lb] x8 (x8.setCell ⟨lb, 2, none⟩ v8) := Turn.setCell x8 (by simp) _
  refine ⟨(g1.trans t8 (fun i hi => (ht.1 i (by simpa using hi)).1)).trans tS (fun i hi => by
      have : i = lb := by simpa using hi
      rw [this]
      exact g3), g2, g3, g4, hn, _, l, block_set (t8.heap hc hlbv) _, (hd.turn t8 (fun i hi hm => (ht.1 i (by simpa using hm)).2.2 hi)).turn tS (fun i hi hm => (hl i hi).2 (by simpa using hm)), hl, ?_⟩
  exact h8.turn tS (fun k hk hm => hk.2.1 (by simpa using hm))

set_option maxHeartbeats 4000000 in
set_option maxRecDepth 100000 in
theorem readSegment_calls {L : List Nat} {wq w : World} {lb d room num n : Nat} {T : List (List UInt8)} {M : List Fm} (h : Lg L wq w lb d room num T M) (hn : n ≤ num) (htot : tot M ≤ 1048576) (hT : T.length + (bytesOf M (segName n)).length ≤ 1000000) :
    Calls Tryz.prog 30 #[.pointer (some ⟨lb, 0, none⟩), .int .i64 (n : Int)] w fun e w' => e = .returned (.int .i64 (readS room num M n).1) ∧ Lg L wq w' lb d room num (T ++ (readS room num M n).2.1) (readS room num M n).2.2 := by
  obtain ⟨c0, c1, -, -⟩ := h.head
  have hnum := h.synced
  have H := Lib.hid h
  have hbl := bytesOf_le (M := M) (segName n)
  obtain ⟨r, hr⟩ : ∃ r, r = readS room num M n := ⟨_, rfl⟩
  rw [← hr]
  have HR := Lib.hid hr
  have HTT := Lib.hid hT
  clear h hr hT
  go_enter Tryz.func30, Tryz.ntmps30
  go_wp2_with fail
  go_region_held3 (fun w' => w'.cell? ⟨lb, 0, none⟩ = some (.pointer (some ⟨d, 0, none⟩)))
    (go_keep)
    (first
      | (go_at_call 25; ((with_reducible refine (lg_name (H.out.turn (Turn.drew [] w)) (by omega)).mono ?_); rintro e w1 ⟨rfl, h1⟩); obtain ⟨q0, -, -, -⟩ := h1.head; have H1 := Lib.hid h1; clear h1)
      | (go_at_call 19; ((with_reducible refine (lg_read H1.out (segName_len n)).mono ?_); rintro e w2 ⟨ao, c, rfl, hs2, ha2, h2, hb12⟩); obtain ⟨q2, -, -, -⟩ := h2.head; have HB12 := Lib.hid hb12; clear hb12; have H2 := Lib.hid h2; have HS2 := Lib.hid hs2; have HA2 := Lib.hid ha2; clear h2 hs2 ha2))
  obtain ⟨b, hb⟩ : ∃ b, b = bytesOf M (segName n) := ⟨_, rfl⟩
  rw [← hb] at HS2 hbl HTT ⊢
  have HB := Lib.hid hb
  clear hb q0 q2 c0 c1 H
  have CU := Lib.hid (unframe_calls ao c b w2 HS2.out (by omega))
  obtain ⟨U, hU⟩ : ∃ U, U = (unfr b).1 := ⟨_, rfl⟩
  obtain ⟨st, hst⟩ : ∃ st, st = (unfr b).2.1 := ⟨_, rfl⟩
  obtain ⟨er, her⟩ : ∃ er, er = (unfr b).2.2 := ⟨_, rfl⟩
  rw [← hU, ← hst, ← her] at CU
  have hst2 : st ≤ b.length := by rw [hst]; exact unfr_le _ b (Nat.le_refl _)
  have her2 : er = 0 ∨ er = 2 ∨ er = 3 := by rw [her]; exact unfr_err _ b (Nat.le_refl _)
  have HUC := Lib.hid (show U.length ≤ b.length by rw [hU]; exact unfr_count _ b (Nat.le_refl _))
  have hrr : r = if er = 2 then (if n < num then (3, [], M) else (if (rew room M (segName n) (b.take st)).1 = 0 then (0, U, (rew room M (segName n) (b.take st)).2) else ((rew room M (segName n) (b.take st)).1, [], (rew room M (segName n) (b.take st)).2))) else if er = 0 then (0, U, M) else ((er : Int), [], M) := by
    rw [HR.out, hU, hst, her, HB.out]
    rfl
  have HRR := Lib.hid hrr
  have HSF := Lib.hid (slice_front ao b.length c st (by have := HS2.out.le.1; omega))
  have hlt : (b.take st).length = st := by rw [List.length_take]; omega
  have HLT := Lib.hid hlt
  clear hU hst her hrr hlt HR HB
  obtain ⟨nb, hnb⟩ : ∃ nb, nb = b.length := ⟨_, rfl⟩
  rw [← hnb] at CU HSF hst2 hbl HTT HUC ⊢
  have HNB := Lib.hid hnb
  clear hnb
  go_wp2_with fail
  refine CU.out.mono ?_
  rintro e w3 ⟨v, rfl, hu3, hb3⟩
  have h12 : Turn [] w1 w2 := Turn.of_below HB12.out []
  have t3 : Turn [] w1 w3 := h12.trans (Turn.of_below hb3 []) (by simp)
  have h3 := H1.out.rebase t3
  have HBK : Hid (∀ w' nm (T' : List (List UInt8)) M', Lg (mine L wq w1) w3 w' lb d room nm T' M' → Lg L wq w' lb d room nm T' M') := Lib.hid (fun w' nm T' M' hh => hh.back (H1.out.1.trans (t3.mono (by simp)) (fun i hi => .inl hi)) H1.out.2.1)
  have hu3' : Txs w3 (fun k => w1.heap.size ≤ k ∧ k < w3.heap.size) v U := hu3.imp (fun k hk hp => ⟨Nat.le_trans h12.size hp, hk⟩)
  have HU3 := Lib.hid hu3'
  have HS3 := Lib.hid (HS2.out.turn (Turn.of_below hb3 []) (by simp))
  have HAJ : Hid (∀ A, ao = some A → b.take st ≠ [] → A.block ∉ mine L wq w1) := Lib.hid (fun A hA _ hm => by
    have := HA2.out A hA
    have := (mem_mine.1 hm).1
    omega)
  have HPJ : Hid (∀ k, w1.heap.size ≤ k → k ∉ mine L wq w1) := Lib.hid (fun k hk hm => by
    have := (mem_mine.1 hm).1
    omega)
  have HOF : Hid (∀ k, (k ∈ mine L wq w1 ∨ w3.heap.size ≤ k) → (k ∈ L ∨ wq.heap.size ≤ k)) := Lib.hid (fun k hk => by
    have h5 := H1.out.1.size
    have h6 := t3.size
    rcases hk with hk | hk
    · exact (mem_mine.1 hk).2
    · exact .inr (by omega))
  have HQ3 := Lib.hid (H1.out.1.trans (t3.mono (by simp)) (fun i hi => .inl hi) : Turn L wq w3)
  have HTB := Lib.hid H1.out.2.1
  have HW1 := Lib.hid H1.out.1.size
  have H3 := Lib.hid h3
  obtain ⟨c0, c1, -, -⟩ := h3.head
  have HW13 := Lib.hid t3.size
  clear hu3 hu3' hb3 h12 t3 h3 H1 H2 HS2 HA2 CU
  generalize mine L wq w1 = J at *
  have HR1 := HRR.out
  by_cases h23 : er = 2 ∧ n < num
  · obtain ⟨rfl, hlt⟩ := h23
    rw [if_pos rfl, if_pos hlt] at HR1
    have HR2 := Lib.hid HR1
    have hlt2 : (n : Int) < (num : Int) := by omega
    clear HR1
    go_wp2
    go_ret
    rw [HR2.out, List.append_nil]
    exact ⟨rfl, HBK.out _ _ _ _ H3.out⟩
  · obtain ⟨e2, he2⟩ : ∃ e2 : Int, e2 = if er = 2 then (rew room M (segName n) (b.take st)).1 else (er : Int) := ⟨_, rfl⟩
    obtain ⟨M2, hM2⟩ : ∃ M2, M2 = if er = 2 then (rew room M (segName n) (b.take st)).2 else M := ⟨_, rfl⟩
    have hr2 : r = if e2 = 0 then (0, U, M2) else (e2, [], M2) := by
      rw [HR1, he2, hM2]
      by_cases h2 : er = 2
      · rw [if_pos h2, if_pos h2, if_pos h2, if_neg (fun h => h23 ⟨h2, h⟩)]
      · rw [if_neg h2, if_neg h2, if_neg h2]
        by_cases h0 : er = 0
        · rw [if_pos h0, h0, if_pos (by rfl)]
        · rw [if_neg h0, if_neg (by omega)]
    have HR2 := Lib.hid hr2
    have HE2 := Lib.hid he2
    have HM2 := Lib.hid hM2
    have H23 := Lib.hid h23
    clear HR1 hr2 he2 hM2 h23
    rcases her2 with rfl | rfl | rfl
    · have hE : e2 = 0 := by rw [HE2.out]; rfl
      have hM : M2 = M := by rw [HM2.out]; rfl
      have HRF := Lib.hid (show r = (0, U, M) by rw [HR2.out, if_pos hE, hM])
      clear hE hM HR2 HE2 HM2 H23
      go_upto_region 9 with fail
      obtain ⟨g1, g2, g3, g4, g5, vT, l, hc, hd, hl, ht⟩ := H3.out
      obtain ⟨ao1, cap1, hv, -⟩ := ht.form
      subst hv
      have k2 := (three_cells hc).2.2.1
      have hz2 : ∀ x, Turn (Value.slice ao1 T.length cap1).ownBlock.toList w3 x → x.frozen? ⟨lb, 2, none⟩ = false ∧ x.cell? ⟨lb, 2, none⟩ = some (.slice ao1 T.length cap1) := fun x t => by
        have hlb : lb ∉ (Value.slice ao1 T.length cap1).ownBlock.toList := fun hm => (ht.1 lb (by simpa using hm)).2.1 rfl
        exact ⟨unfrozen_of (t.heap hc hlb), t.cell k2 hlb⟩
      have HZ2 := Lib.hid hz2
      have hzz := (hz2 _ (Turn.refl _ _)).1
      have hux := HU3.out
      obtain ⟨aoU, capU, hvU, hcU, -, hcase⟩ := hux.form
      obtain ⟨hq1, ys, hry, hly, hcy⟩ := hux
      have ht' : Txs w3 (fun k => (k ∈ L ∨ wq.heap.size ≤ k) ∧ k ≠ lb ∧ k ∉ l) (.slice ao1 T.length cap1) T := ht.imp (fun k _ hp => ⟨HOF.out k hp.1, hp.2⟩)
      have hfar : ∀ k, w1.heap.size ≤ k → k < w3.heap.size → ¬ (k ∈ J ∨ w3.heap.size ≤ k) := fun k h1 h2 h3 => by
        rcases h3 with h3 | h3
        · exact HPJ.out k h1 h3
        · omega
      obtain ⟨xs, hxs, hfin⟩ := Txs.appended (U := U) (Q := fun k => (k ∈ L ∨ wq.heap.size ≤ k) ∧ k ≠ lb ∧ k ∉ l) ht' ys hly (fun i hi => by
        obtain ⟨aoi, ci, e1, e2, e3⟩ := hcy i hi
        refine ⟨aoi, ci, e1, e2, fun A hA hne => ?_⟩
        obtain ⟨h1, h2⟩ := (e3 A hA hne).1
        have h5 := hfar A.block h1 h2
        have h6 := HW1.out
        refine ⟨⟨.inr (by omega), fun e => h5 (e ▸ g3), fun hm => h5 (hl _ hm).1⟩, fun e => h5 (ht.1 _ e).1⟩) (fun k hk => hk) (fun k hk => by
        have h3 := lt_of_heap hc
        have h4 := g1.size
        have h5 := HQ3.out.size
        exact ⟨.inr (by omega), by omega, fun hm => by have := hd.lt _ hm; omega⟩)
      have hfinal : ∀ x8 v8, Turn (Value.slice ao1 T.length cap1).ownBlock.toList w3 x8 → Txs x8 (fun k => (k ∈ L ∨ wq.heap.size ≤ k) ∧ k ≠ lb ∧ k ∉ l) v8 (T ++ U) → Lg L wq (x8.setCell ⟨lb, 2, none⟩ v8) lb d room num (T ++ U) M := fun x8 v8 t8 h8 =>
        Lg.more (HQ3.out.trans g1 (fun i hi => HOF.out i (.inl hi))) HTB.out (HOF.out lb g3) g4 hc hd (fun i hi => ⟨HOF.out i (hl i hi).1, (hl i hi).2⟩) ht' t8 h8 (by rw [List.length_append]; have := HTT.out; have := HUC.out; omega)
      have HX := Lib.hid hxs
      have HF := Lib.hid hfin
      have HFI := Lib.hid hfinal
      have HT0 := Lib.hid ht'
      have hbnd : T.length + U.length ≤ 2000000 := by have := HTT.out; have := HUC.out; omega
      have HBD := Lib.hid hbnd
      rcases hcase with ⟨rfl, hU0, rfl⟩ | ⟨gU, rfl⟩
      · subst hU0
        subst hvU
        clear g1 g2 g3 g4 g5 hc hd hl ht ht' hfar hxs hfin hfinal hry hly hcy hq1 hz2 hcU hbnd
        go_wp2_with (at_builtin; refine append_tx_none rfl (.tmp 55) (.tmp 56) rfl _ T.length xs rfl HX.out rfl ?_)
        go_ret
        rw [HRF.out]
        refine ⟨rfl, HFI.out _ _ (Turn.refl _ _) ?_⟩
        rw [List.append_nil]
        exact HT0.out
      · subst hvU
        have hyc : ∀ j u, ys[j]? = some u → w3.cell? ((⟨gU, 0, none⟩ : Addr).add j) = some u := fun j u hu => hry.cells (g := gU) rfl j u hu
        have hone : ∀ u ∈ ys, u.oneCell' = true := by
          intro u hu
          obtain ⟨i, hi, rfl⟩ := List.mem_iff_getElem.1 hu
          obtain ⟨aoi, ci, e1, -, -⟩ := hcy i (by omega)
          rw [List.getElem?_eq_getElem hi] at e1
          rw [Option.some.inj e1]
          rfl
        have HYC := Lib.hid hyc
        have HON := Lib.hid hone
        have HLY := Lib.hid hly
        clear g1 g2 g3 g4 g5 hc hd hl ht ht' hfar hxs hfin hfinal hry hly hcy hq1 hz2 hcU hbnd hyc hone
        go_wp2_with (at_builtin; refine append_tx rfl (.tmp 55) (.tmp 56) rfl (.slice ao1 T.length cap1) T.length xs rfl HX.out ⟨gU, 0, none⟩ U.length capU ys rfl HLY.out HYC.out HON.out HBD.out ?_; intro v8 w8 hr8 hg8 hl8; have HT8 := Lib.hid (HF.out v8 w8 hr8 hg8 hl8); have T8 : Turn (Value.slice ao1 T.length cap1).ownBlock.toList w3 w8 := Turn.grown hg8 (fun k hk => .inl (by simp [hk])); obtain ⟨z8, k8⟩ := HZ2.out _ T8; have HT8' := Lib.hid T8; clear hr8 hg8 hl8 T8; obtain ⟨ao8, cap8, hv8, -⟩ := HT8.out.form; subst hv8)
        go_ret
        rw [HRF.out]
        have h9 := HT8.out
        rw [List.length_append] at h9
        exact ⟨rfl, HFI.out _ _ HT8'.out h9⟩
    · have hnn : n = num := by
        have := H23.out
        omega
      have hE : e2 = (rew room M (segName n) (b.take st)).1 := by rw [HE2.out]; rfl
      have hM : M2 = (rew room M (segName n) (b.take st)).2 := by rw [HM2.out]; rfl
      have HEE := Lib.hid hE
      have HMM := Lib.hid hM
      have hf1 : decide ((n : Int) < (num : Int)) = false := by simp; omega
      have hf2 : decide (n < num) = false := by simp; omega
      have hsf := HSF.out
      clear hE hM HE2 HM2 H23 hnn
      go_upto_region 6 with fail
      go_region_held3 (fun w' => w'.cell? ⟨lb, 0, none⟩ = some (.pointer (some ⟨d, 0, none⟩)))
        (go_keep)
        (first
          | (go_at_call 25; ((with_reducible refine (lg_name (H3.out.turn (Turn.drew [] w3)) (by omega)).mono ?_); rintro e w5 ⟨rfl, h5⟩); obtain ⟨q5, -, -, -⟩ := h5.head; have H5 := Lib.hid h5; clear h5)
          | (go_at_call 51; have CW := rewrite_calls (bs := b.take st) H5.out (segName_len n) (HS3.out.front st) HAJ.out; rw [HLT.out] at CW; ((with_reducible refine CW.mono ?_); rintro e w6 ⟨rfl, h6⟩); clear CW; obtain ⟨q6, -, -, -⟩ := h6.head; have H6' := Lib.hid h6; clear h6))
      have h6 := H6'.out
      rw [← HMM.out] at h6
      rw [← HEE.out]
      have HU6 := Lib.hid (HU3.out.turn h6.1 (fun k hk => HPJ.out k hk.1))
      have H6 := Lib.hid h6
      clear h6 H6' H3 H5 hsf
      by_cases hz : e2 = 0
      · have HRF := Lib.hid (show r = (0, U, M2) by rw [HR2.out, if_pos hz])
        subst hz
        clear HR2 HEE HMM
        go_upto_region 9 with fail
        obtain ⟨g1, g2, g3, g4, g5, vT, l, hc, hd, hl, ht⟩ := H6.out
        obtain ⟨ao1, cap1, hv, -⟩ := ht.form
        subst hv
        have k2 := (three_cells hc).2.2.1
        have hz2 : ∀ x, Turn (Value.slice ao1 T.length cap1).ownBlock.toList w6 x → x.frozen? ⟨lb, 2, none⟩ = false ∧ x.cell? ⟨lb, 2, none⟩ = some (.slice ao1 T.length cap1) := fun x t => by
          have hlb : lb ∉ (Value.slice ao1 T.length cap1).ownBlock.toList := fun hm => (ht.1 lb (by simpa using hm)).2.1 rfl
          exact ⟨unfrozen_of (t.heap hc hlb), t.cell k2 hlb⟩
        have HZ2 := Lib.hid hz2
        have hzz := (hz2 _ (Turn.refl _ _)).1
        have hux := HU6.out
        obtain ⟨aoU, capU, hvU, hcU, -, hcase⟩ := hux.form
        obtain ⟨hq1, ys, hry, hly, hcy⟩ := hux
        have ht' : Txs w6 (fun k => (k ∈ L ∨ wq.heap.size ≤ k) ∧ k ≠ lb ∧ k ∉ l) (.slice ao1 T.length cap1) T := ht.imp (fun k _ hp => ⟨HOF.out k hp.1, hp.2⟩)
        have hfar : ∀ k, w1.heap.size ≤ k → k < w3.heap.size → ¬ (k ∈ J ∨ w3.heap.size ≤ k) := fun k h1 h2 h3 => by
          rcases h3 with h3 | h3
          · exact HPJ.out k h1 h3
          · omega
        obtain ⟨xs, hxs, hfin⟩ := Txs.appended (U := U) (Q := fun k => (k ∈ L ∨ wq.heap.size ≤ k) ∧ k ≠ lb ∧ k ∉ l) ht' ys hly (fun i hi => by
          obtain ⟨aoi, ci, e1, e2, e3⟩ := hcy i hi
          refine ⟨aoi, ci, e1, e2, fun A hA hne => ?_⟩
          obtain ⟨h1, h2⟩ := (e3 A hA hne).1
          have h5 := hfar A.block h1 h2
          have h6 := HW1.out
          refine ⟨⟨.inr (by omega), fun e => h5 (e ▸ g3), fun hm => h5 (hl _ hm).1⟩, fun e => h5 (ht.1 _ e).1⟩) (fun k hk => hk) (fun k hk => by
          have h3 := lt_of_heap hc
          have h4 := g1.size
          have h5 := HQ3.out.size
          exact ⟨.inr (by omega), by omega, fun hm => by have := hd.lt _ hm; omega⟩)
        have hfinal : ∀ x8 v8, Turn (Value.slice ao1 T.length cap1).ownBlock.toList w6 x8 → Txs x8 (fun k => (k ∈ L ∨ wq.heap.size ≤ k) ∧ k ≠ lb ∧ k ∉ l) v8 (T ++ U) → Lg L wq (x8.setCell ⟨lb, 2, none⟩ v8) lb d room num (T ++ U) M2 := fun x8 v8 t8 h8 =>
          Lg.more (HQ3.out.trans g1 (fun i hi => HOF.out i (.inl hi))) HTB.out (HOF.out lb g3) g4 hc hd (fun i hi => ⟨HOF.out i (hl i hi).1, (hl i hi).2⟩) ht' t8 h8 (by rw [List.length_append]; have := HTT.out; have := HUC.out; omega)
        have HX := Lib.hid hxs
        have HF := Lib.hid hfin
        have HFI := Lib.hid hfinal
        have HT0 := Lib.hid ht'
        have hbnd : T.length + U.length ≤ 2000000 := by have := HTT.out; have := HUC.out; omega
        have HBD := Lib.hid hbnd
        rcases hcase with ⟨rfl, hU0, rfl⟩ | ⟨gU, rfl⟩
        · subst hU0
          subst hvU
          clear g1 g2 g3 g4 g5 hc hd hl ht ht' hfar hxs hfin hfinal hry hly hcy hq1 hz2 hcU hbnd
          go_wp2_with (at_builtin; refine append_tx_none rfl (.tmp 55) (.tmp 56) rfl _ T.length xs rfl HX.out rfl ?_)
          go_ret
          rw [HRF.out]
          refine ⟨rfl, HFI.out _ _ (Turn.refl _ _) ?_⟩
          rw [List.append_nil]
          exact HT0.out
        · subst hvU
          have hyc : ∀ j u, ys[j]? = some u → w6.cell? ((⟨gU, 0, none⟩ : Addr).add j) = some u := fun j u hu => hry.cells (g := gU) rfl j u hu
          have hone : ∀ u ∈ ys, u.oneCell' = true := by
            intro u hu
            obtain ⟨i, hi, rfl⟩ := List.mem_iff_getElem.1 hu
            obtain ⟨aoi, ci, e1, -, -⟩ := hcy i (by omega)
            rw [List.getElem?_eq_getElem hi] at e1
            rw [Option.some.inj e1]
            rfl
          have HYC := Lib.hid hyc
          have HON := Lib.hid hone
          have HLY := Lib.hid hly
          clear g1 g2 g3 g4 g5 hc hd hl ht ht' hfar hxs hfin hfinal hry hly hcy hq1 hz2 hcU hbnd hyc hone
          go_wp2_with (at_builtin; refine append_tx rfl (.tmp 55) (.tmp 56) rfl (.slice ao1 T.length cap1) T.length xs rfl HX.out ⟨gU, 0, none⟩ U.length capU ys rfl HLY.out HYC.out HON.out HBD.out ?_; intro v8 w8 hr8 hg8 hl8; have HT8 := Lib.hid (HF.out v8 w8 hr8 hg8 hl8); have T8 : Turn (Value.slice ao1 T.length cap1).ownBlock.toList w6 w8 := Turn.grown hg8 (fun k hk => .inl (by simp [hk])); obtain ⟨z8, k8⟩ := HZ2.out _ T8; have HT8' := Lib.hid T8; clear hr8 hg8 hl8 T8; obtain ⟨ao8, cap8, hv8, -⟩ := HT8.out.form; subst hv8)
          go_ret
          rw [HRF.out]
          have h9 := HT8.out
          rw [List.length_append] at h9
          exact ⟨rfl, HFI.out _ _ HT8'.out h9⟩
      · have a1 : (e2 == 0) = false := by simpa using hz
        have a2 : decide (e2 = 0) = false := by simpa using hz
        have HRF := Lib.hid (show r = (e2, [], M2) by rw [HR2.out, if_neg hz])
        clear HR2 HEE HMM hz
        go_wp2
        go_ret
        rw [HRF.out, List.append_nil]
        exact ⟨rfl, HBK.out _ _ _ _ H6.out⟩
    · have hE : e2 = 3 := by rw [HE2.out]; rfl
      have hM : M2 = M := by rw [HM2.out]; rfl
      have HRF := Lib.hid (show r = (3, [], M) by rw [HR2.out, if_neg (by rw [hE]; decide), hE, hM])
      clear hE hM HR2 HE2 HM2 H23
      go_wp2
      go_ret
      rw [HRF.out, List.append_nil]
      exact ⟨rfl, HBK.out _ _ _ _ H3.out⟩

end Go.Proofs.YtjdpglmphacfjaaGreatDoor
