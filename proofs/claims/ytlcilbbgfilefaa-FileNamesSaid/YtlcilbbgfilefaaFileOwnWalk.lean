/-
  The walk of the law FileOwn.
-/
import Derived.Test.YtlcilbbgfilefaaFileRenameWalk
import Derived.LoopTactic
namespace Go.Proofs.Ytlcilbbgfilefaa
open Go.RowKit

/-- A row of bytes, whatever they are, in a block from q on that is none of those to be spared. -/
def BRow (w : World) (q : Nat) (av : Nat → Prop) (ao : Option Addr) (N : Nat) : Prop :=
  N = 0 ∨ ∃ g, ao = some ⟨g, 0, none⟩ ∧ q ≤ g ∧ ¬ av g ∧ ∀ i, i < N → (∃ z, w.cell? ⟨g, i, none⟩ = some (.int .u8 z)) ∧ w.frozen? ⟨g, i, none⟩ = false

theorem BRow.of_row {w : World} {q : Nat} {av : Nat → Prop} {ao : Option Addr} {c : Nat} {l : List UInt8} (h : w.ownsRow 0 5 1 (.slice ao l.length c) l.length (u8s l)) (hq : ∀ A, ao = some A → q ≤ A.block ∧ ¬ av A.block) : BRow w q av ao l.length := by
  rcases h.2 with ⟨_, h0⟩ | ⟨g, cap, cur, hv, _, hg, hle, hm, hs, htk⟩
  · exact .inl h0
  · injection hv with h1 h2 h3
    subst h1
    obtain ⟨h4, h5⟩ := hq _ rfl
    refine .inr ⟨g, rfl, h4, h5, fun i hi => ⟨?_, ?_⟩⟩
    · have h6 := h.cells (g := g) rfl i _ (u8s_at hi)
      rw [Addr.add_lit, Nat.zero_add] at h6
      exact ⟨_, h6⟩
    · exact unfrozen_of hg

theorem BRow.set {w : World} {q : Nat} {av : Nat → Prop} {g N k : Nat} (h : BRow w q av (some ⟨g, 0, none⟩) N) (z : Int) : BRow (w.setCell ⟨g, k, none⟩ (.int .u8 z)) q av (some ⟨g, 0, none⟩) N := by
  rcases h with h | ⟨g', hg, h1, h2, h3⟩
  · exact .inl h
  · cases hg
    refine .inr ⟨g, rfl, h1, h2, fun i hi => ⟨?_, ?_⟩⟩
    · obtain ⟨⟨y, hy⟩, _⟩ := h3 i hi
      by_cases e : i = k
      · subst e
        exact ⟨z, World.cell?_setCell_same _ _ _ hy⟩
      · exact ⟨y, by rw [World.cell?_setCell_other _ _ _ _ (by simp)]; exact hy⟩
    · rw [World.frozen?_setCell]
      exact (h3 i hi).2

/-- What is to be spared: a disk's blocks, and the block of a slice. -/
def spare (l : List Nat) (ao : Option Addr) (k : Nat) : Prop := k ∈ l ∨ ∃ A, ao = some A ∧ A.block = k

def nA : List UInt8 := [97]

set_option maxHeartbeats 4000000 in
set_option maxRecDepth 100000 in
theorem fileOwn_walk (a0 : Option Addr) (c0 : Nat) (l0 : List UInt8) {w : World} (h0 : Sl w a0 c0 l0) :
    Calls Try.prog 7 #[.slice a0 l0.length c0] w fun e w' => e = .returned (.bool true) ∧ Below w.heap.size w w' := by
  have H0 := Lib.hid h0
  clear h0
  go_enter Try.func7, Try.ntmps7
  go_wp2_with fail
  refine (begun3_calls _).mono ?_
  rintro e x1 ⟨rfl, hb⟩
  have B1 := Lib.hid hb
  have S0 := Lib.hid (H0.out.belowAll hb)
  clear hb
  go_wp2_with fail
  refine (short_its a0 c0 60 l0 _ S0.out (by omega)).mono ?_
  rintro e x2 ⟨ao, co, la, rfl, hs, hb, hla, -⟩
  have T0 := Lib.hid hs
  have B2 := Lib.hid (B1.out.trans (hb.mono B1.out.size))
  clear hs hb S0 H0 B1
  obtain ⟨N, hN⟩ : ∃ N, N = la.length := ⟨_, rfl⟩
  rw [← hN] at hla ⊢
  have HN := Lib.hid hN
  clear hN
  go_wp2_with (at_builtin; refine append_bytes_at rfl (.const (.slice none 0 0)) (.tmp 17) rfl (.slice none 0 0) [] rfl (World.ownsRow_nil _ _ _ _) ao co la (by rw [← HN.out]; rfl) T0.out (by simp; rw [← HN.out]; omega) ?_; intro v x3 hown hg hloc; have HW := Lib.hid hown; have HG := Lib.hid hg; have HL := Lib.hid hloc; clear hown hg hloc)
  have hw0 := HW.out
  rw [List.nil_append] at hw0
  obtain ⟨ap, cp, rfl, hsp, -⟩ := row_read hw0
  have HW0 := Lib.hid hw0
  have t3 : Turn [] x2 x3 := Turn.grown HG.out (by intro k hk; cases hk)
  have Z23 := Lib.hid t3.size
  have B3 := Lib.hid (B2.out.trans (t3.belowAll.mono B2.out.size))
  have S3 := Lib.hid (T0.out.turn t3 (by simp))
  have P3 := Lib.hid hsp
  have hgp : ∀ A, ap = some A → A.block = x2.heap.size := by
    intro A hA
    rcases HL.out with h | h
    · rw [hA] at h; simp [Value.ownBlock] at h
    · rw [hA] at h; simpa [Value.ownBlock] using h
  have hz3 : ∀ A, ap = some A → A.block < x3.heap.size := fun A hA => by subst hA; exact (HW0.out.lt A.block rfl).2
  have HGP := Lib.hid hgp
  have HZ3 := Lib.hid hz3
  rw [← HN.out]
  clear hsp t3 hgp hz3 HL HG HW hw0
  go_wp2_with fail
  refine (new_calls 100 _).mono ?_
  rintro e x4 ⟨rfl, hd, hb⟩
  obtain ⟨b, hbb⟩ : ∃ b, b = x3.heap.size := ⟨_, rfl⟩
  rw [← hbb] at hd ⊢
  have HBB := Lib.hid hbb
  have D4 := Lib.hid hd
  have B4 := Lib.hid (B3.out.trans (hb.mono B3.out.size))
  have S4 := Lib.hid (S3.out.belowAll hb)
  have P4 := Lib.hid (P3.out.belowAll hb)
  have W4 := Lib.hid (ownsRow_turn HW0.out (Turn.of_below hb []) (by simp))
  have hz4 := hb.size
  clear hd hb hbb
  go_wp2_with fail
  have C := append_any (A := []) (B := []) (g := ⟨nA, [], 0, false⟩) (n := nA) (bs := la) _ D4.out (.inr ⟨rfl, rfl, rfl, by simp⟩) (by decide) P4.out (by
    intro x hx _ hm
    have h1 : x.block = b := by simpa using hm
    have h2 := HZ3.out x hx
    have h3 := HBB.out
    omega) (by rw [show roomOf 100 = 100 from by decide, ← HN.out]; simp [tot]; omega)
  rw [← HN.out] at C
  refine C.mono ?_
  rintro e x5 ⟨rfl, ht, l, hd, hl⟩
  have D5 := Lib.hid (show DiskM x5 b (roomOf 100) l ([] ++ Fm.mk nA la 0 false :: []) from hd)
  have hlb : ∀ i ∈ l, x3.heap.size ≤ i := by
    intro i hi
    rcases hl i hi with h | h
    · have h1 : i = b := by simpa using h
      have h2 := HBB.out
      omega
    · omega
  have hbs : ∀ k ∈ [b], x3.heap.size ≤ k := by
    intro k hk
    have h1 : k = b := by simpa using hk
    have h2 := HBB.out
    omega
  have hab : ∀ A, ao = some A → la ≠ [] → A.block < x2.heap.size := fun A hA hne => by subst hA; exact T0.out.lt hne
  have hz2 := Z23.out
  have hbx := HBB.out
  have S5 := Lib.hid (S4.out.turn ht (fun A hA hne hm => by have h1 := hab A hA hne; have h2 : A.block = b := by simpa using hm
                                                            omega))
  have W5 := Lib.hid (ownsRow_turn W4.out ht (fun k hk hm => by
    have h2 : k = b := by simpa using hm
    cases hap : ap with
    | none => rw [hap] at hk; simp [Value.ownBlock] at hk
    | some A =>
      have h1 := HZ3.out A hap
      rw [hap] at hk
      have h3 : A.block = k := by simpa [Value.ownBlock] using hk
      omega))
  have B5 := Lib.hid (B4.out.trans ((ht.below hbs (Nat.le_trans (Nat.le_refl _) hz4)).mono (Nat.le_trans B2.out.size hz2)))
  have R5 := Lib.hid (BRow.of_row (q := w.heap.size) (av := spare l (if la = [] then none else ao)) W5.out (fun A hA => by
    have h1 := HGP.out A hA
    have h2 := HZ3.out A hA
    have h3 := B2.out.size
    refine ⟨by omega, fun h => ?_⟩
    rcases h with h | ⟨A', hA', hb'⟩
    · have := hlb _ h; omega
    · split at hA'
      · cases hA'
      · have := hab A' hA' ‹_›; omega))
  rw [← HN.out] at R5
  have LB := Lib.hid hlb
  clear C ht hd hl hbs hlb hz2 hbx hz4 W4 W5 S4 P4 D4 S3 P3 HW0 B3 B4
  have hv1 : ∀ k ∈ l, spare l (if la = [] then none else ao) k := fun k hk => .inl hk
  have hv2 : ∀ A, ao = some A → la ≠ [] → spare l (if la = [] then none else ao) A.block := fun A hA hne => .inr ⟨A, by rw [if_neg hne, hA], rfl⟩
  have hv3 : ∀ k, spare l (if la = [] then none else ao) k → k ∈ l ∨ ∃ A, ao = some A ∧ la ≠ [] ∧ A.block = k := by
    intro k h
    rcases h with h | ⟨A, hA, hk⟩
    · exact .inl h
    · split at hA
      · cases hA
      · exact .inr ⟨A, hA, ‹_›, hk⟩
  generalize spare l (if la = [] then none else ao) = av at *
  have HV3 := Lib.hid hv3
  have HV1 := Lib.hid hv1
  have HV2 := Lib.hid hv2
  clear hv1 hv2 hv3 hab HGP HZ3 HBB T0 B2 LB Z23
  go_wp2_with fail
  go_loopw [26] (fun i wr => ∃ k : Nat, k ≤ N ∧ i = .int .i64 k ∧ Below w.heap.size w wr ∧ DiskM wr b (roomOf 100) l ([] ++ Fm.mk nA la 0 false :: []) ∧ Sl wr ao co la ∧ BRow wr w.heap.size av ap N) (fun i _ => N - (intOf i).toNat)
  case atStart => exact ⟨0, by omega, rfl, B5.out, D5.out, S5.out, R5.out⟩
  case round =>
    obtain ⟨k, hk, rfl, hb, hd, hs, hr⟩ := hrel
    have Bk := Lib.hid hb
    have Dk := Lib.hid hd
    have Sk := Lib.hid hs
    have Rk := Lib.hid hr
    by_cases hlt : k < N
    · rcases hr with h | ⟨g, rfl, h1, h2, h3⟩
      · omega
      · obtain ⟨⟨z, hz⟩, hf⟩ := h3 k hlt
        have HQ := Lib.hid h1
        have HNV := Lib.hid h2
        clear hb hd hs h1 h2 h3
        go_wp2
        go_roundw
        case rel =>
          have t : Turn [g] wr (wr.setCell ⟨g, k, none⟩ (.int .u8 (bits .xor .u8 z 255))) := Turn.setCell wr (by simp) _
          refine ⟨k + 1, by omega, by go_num, Bk.out.trans (t.below (fun i hi => by simp at hi; subst hi; exact HQ.out) Bk.out.size), Dk.out.turn t (fun i hi hm => ?_), Sk.out.turn t (fun A hA hne hm => ?_), Rk.out.set _⟩
          · simp at hm
            subst hm
            exact HNV.out (HV1.out _ hi)
          · simp at hm
            rw [← hm] at HNV
            exact HNV.out (HV2.out A hA hne)
        case measure => simp [intOf]; omega
    · clear hb hd hs hr
      go_wp2_with fail
      refine (read_some _ Dk.out).mono ?_
      rintro e y1 ⟨v, rfl, hrow, hb⟩
      obtain ⟨aq, cq, rfl, -, haq⟩ := row_read hrow
      have Bm := Lib.hid (Bk.out.trans (hb.mono Bk.out.size))
      have Dm := Lib.hid (Dk.out.belowAll hb)
      have Sm := Lib.hid (Sk.out.belowAll hb)
      have Rm := Lib.hid (BRow.of_row (q := w.heap.size) (av := av) (ownsRow_base hrow (fun k _ => Nat.zero_le k)) (fun A hA => by
        have h1 := haq A hA
        have h2 := Bk.out.size
        refine ⟨by omega, fun h => ?_⟩
        rcases HV3.out _ h with h | ⟨A', hA', hne, hb'⟩
        · have := Dk.out.lt _ h; omega
        · have hs' := Sk.out
          rw [hA'] at hs'
          have := hs'.lt hne; omega))
      rw [show (Fm.mk nA la 0 false).b = la from rfl, ← HN.out] at Rm
      rw [show (Fm.mk nA la 0 false).b.length = N from HN.out.symm]
      clear hrow haq hb Bk Dk Sk Rk B5 D5 S5 R5
      go_wp2_with fail
      go_loopw [43] (fun i wq => ∃ k : Nat, k ≤ N ∧ i = .int .i64 k ∧ Below w.heap.size w wq ∧ DiskM wq b (roomOf 100) l ([] ++ Fm.mk nA la 0 false :: []) ∧ Sl wq ao co la ∧ BRow wq w.heap.size av aq N) (fun i _ => N - (intOf i).toNat)
      case atStart => exact ⟨0, by omega, rfl, Bm.out, Dm.out, Sm.out, Rm.out⟩
      case round =>
        clear Bm Dm Sm Rm hlt hk
        obtain ⟨j, hj, rfl, hb, hd, hs, hr⟩ := hrel
        have Bk := Lib.hid hb
        have Dk := Lib.hid hd
        have Sk := Lib.hid hs
        have Rk := Lib.hid hr
        by_cases hlt : j < N
        · rcases hr with h | ⟨g, rfl, h1, h2, h3⟩
          · omega
          · obtain ⟨⟨z, hz⟩, hf⟩ := h3 j hlt
            have HQ := Lib.hid h1
            have HNV := Lib.hid h2
            clear hb hd hs h1 h2 h3
            go_wp2
            go_roundw
            case rel =>
              have t : Turn [g] wr (wr.setCell ⟨g, j, none⟩ (.int .u8 7)) := Turn.setCell wr (by simp) _
              refine ⟨j + 1, by omega, by go_num, Bk.out.trans (t.below (fun i hi => by simp at hi; subst hi; exact HQ.out) Bk.out.size), Dk.out.turn t (fun i hi hm => ?_), Sk.out.turn t (fun A hA hne hm => ?_), Rk.out.set _⟩
              · simp at hm
                subst hm
                exact HNV.out (HV1.out _ hi)
              · simp at hm
                rw [← hm] at HNV
                exact HNV.out (HV2.out A hA hne)
            case measure => simp [intOf]; omega
        · clear hb hd hs hr
          go_wp2_with fail
          refine (read_some _ Dk.out).mono ?_
          rintro e y2 ⟨v, rfl, hrow, hb⟩
          obtain ⟨ar, cr, rfl, hsr, -⟩ := row_read hrow
          have B2 := Lib.hid (Bk.out.trans (hb.mono Bk.out.size))
          have q1 : (convert 30 9 (.slice ao N co)).run Try.prog y2 = .ok (.string ⟨la.toArray⟩) y2 := conv_sl (Sk.out.belowAll hb) HN.out
          have q2 : (convert 30 9 (.slice ar N cr)).run Try.prog y2 = .ok (.string ⟨la.toArray⟩) y2 := conv_sl hsr HN.out
          rw [show (Fm.mk nA la 0 false).b.length = N from HN.out.symm]
          clear hrow hsr hb Bk Dk Sk Rk
          go_wp2
          go_ret
          exact ⟨rfl, B2.out⟩

end Go.Proofs.Ytlcilbbgfilefaa
