/-
  The walk of the law SegTwice.
-/
import Derived.Test.YtjdpglmphacfjaaGreatDoorBegun4
import Derived.Test.YtjdpglmphacfjaaGreatDoorSegMore
import Derived.Test.YtjdpglmphacfjaaGreatDoorShortNew
import Derived.Deep.Grids
namespace Go.Proofs.YtjdpglmphacfjaaGreatDoor
open Go.RowKit Go.ChangeShapes Go.WideShapes Go.ChangeAt Go.Deep

/-- A slice of truths, as cells. -/
def Fl (w : World) (ao : Option Addr) (c : Nat) (l : List Bool) : Prop :=
  (ao = none ∧ c = 0 ∧ l = []) ∨
  ∃ A : Addr, ao = some A ∧ l.length ≤ c ∧ c ≤ maxLen ∧ ∀ i, i < l.length → w.cell? (A.add i) = some (.bool (l.getD i false))

theorem Fl.at {w : World} {ao : Option Addr} {c : Nat} {l : List Bool} (h : Fl w ao c l) (hl : l ≠ []) : ∃ b off, ao = some ⟨b, off, none⟩ ∧ b < w.heap.size ∧ ∀ i, i < l.length → w.cell? ⟨b, off + i, none⟩ = some (.bool (l.getD i false)) := by
  rcases h with ⟨_, _, h⟩ | ⟨A, rfl, _, _, hc⟩
  · exact absurd h hl
  · obtain ⟨b, off, spot⟩ := A
    have h0 := hc 0 (List.length_pos_iff.2 hl)
    have hs : spot = none := by simpa [Addr.add] using World.cell?_spot h0
    subst hs
    have hc' : ∀ i, i < l.length → w.cell? ⟨b, off + i, none⟩ = some (.bool (l.getD i false)) := fun i hi => by rw [← Addr.add_lit]; exact hc i hi
    exact ⟨b, off, rfl, World.block_lt_of_cell? _ _ (hc' 0 (List.length_pos_iff.2 hl)), hc'⟩

theorem open_flags {H : Type} {enc : TypeId × Value → H} {W : World} {a : Option Addr} {len cap : Nat} {d : DataW H} {p : List MemPlace}
    (h : DataW.Trod enc Tryz.prog W 0 (fun _ => true) true 47 (.slice a len cap) d p) : ∃ l : List Bool, len = l.length ∧ Fl W a cap l := by
  obtain ⟨fuel, hf⟩ := h
  rcases open_bools Tryz.underlying47 Tryz.underlying4 (by kernel_rfl) hf with ⟨hcs, _⟩ | ⟨x, l, c, B, hcs, _, hl, hm, _, hcell⟩
  · simp [Value.cells] at hcs
    obtain ⟨rfl, rfl, rfl⟩ := hcs
    exact ⟨[], rfl, .inl ⟨rfl, rfl, rfl⟩⟩
  · simp [Value.cells] at hcs
    obtain ⟨rfl, rfl, rfl⟩ := hcs
    refine ⟨(List.range len).map B, by simp, .inr ⟨x, rfl, by simpa using hl, hm, fun i hi => ?_⟩⟩
    have hi2 : i < len := by simpa using hi
    rw [hcell i (by omega)]
    simp [List.getD, hi2]

theorem Il.len {w : World} {ao : Option Addr} {c : Nat} {l : List Int} (h : Il w ao c l) : (l.length : Int) ≤ 9223372036854775807 := by
  rcases h with ⟨_, _, rfl⟩ | ⟨A, _, q1, q2, _⟩
  · simp
  · unfold maxLen at q2; omega

theorem Fl.len {w : World} {ao : Option Addr} {c : Nat} {l : List Bool} (h : Fl w ao c l) : (l.length : Int) ≤ 9223372036854775807 := by
  rcases h with ⟨_, _, rfl⟩ | ⟨A, _, q1, q2, _⟩
  · simp
  · unfold maxLen at q2; omega

theorem Il.rng {w : World} {ao : Option Addr} {c : Nat} {l : List Int} (h : Il w ao c l) {i : Nat} (hi : i < l.length) : -9223372036854775808 ≤ l.getD i 0 ∧ l.getD i 0 ≤ 9223372036854775807 := by
  rcases h with ⟨_, _, rfl⟩ | ⟨A, _, _, _, _, h5⟩
  · simp at hi
  · have : l.getD i 0 = l[i] := by simp [List.getD, hi]
    rw [this]
    exact h5 _ (List.getElem_mem hi)

/-- What holds between the log and what the law keeps of it. -/
structure Kept (w wr : World) (lb d k : Nat) (a : Nat) (T : List (List UInt8)) (S : Nat → List (List UInt8)) (L : List Nat) (M : List Fm) (av : Value) : Prop where
  log : LgAt L wr lb d rBig a T M
  ge : ∀ j ∈ L, w.heap.size ≤ j
  row : Txs wr (fun g => g ∉ L ∧ w.heap.size ≤ g) av T
  few : a ≤ k ∧ T.length ≤ k ∧ tot M ≤ 66 * k
  sg : Sg M a S
  cat : T = catS S 0 (a + 1)
  short : ∀ t ∈ T, t.length ≤ 60
  bel : Below w.heap.size w wr

set_option maxHeartbeats 8000000 in
set_option maxRecDepth 100000 in
theorem segTwice_walk (a0 : Option Addr) (cap0 : Nat) (l0 : List (List UInt8)) (a1 : Option Addr) (cap1 : Nat) (l1 : List Bool) (a2 : Option Addr) (cap2 : Nat) (l2 : List Int) (w : World) (w0 : Tl w a0 cap0 l0) (w1 : Fl w a1 cap1 l1) (w2 : Il w a2 cap2 l2) (htab : Tab w) :
    Calls Tryz.prog 6 #[.slice a0 l0.length cap0, .slice a1 l1.length cap1, .slice a2 l2.length cap2] w fun e w' => e = .returned (.bool true) ∧ Below w.heap.size w w' := by
  have hlen := w0.len
  have hlen1 := w1.len
  have hlen2 := w2.len
  have H0 := Lib.hid w0
  have H1 := Lib.hid w1
  have H2 := Lib.hid w2
  have HTB := Lib.hid htab
  clear w0 w1 w2 htab
  go_enter Tryz.func6, Tryz.ntmps6
  go_wp2_with fail
  refine (begun4_calls _ HTB.out).mono ?_
  rintro e x1 ⟨rfl, hb1⟩
  have B1 := Lib.hid hb1
  have T1 := Lib.hid (HTB.out.turn (Turn.of_below hb1 []) (by simp))
  clear hb1
  go_wp2_with fail
  refine (dk_new 1048576 x1).mono ?_
  rintro e x2 ⟨rfl, hd⟩
  rw [room_big] at hd
  have D2 := Lib.hid hd
  obtain ⟨d, hdd⟩ : ∃ d, d = x1.heap.size := ⟨_, rfl⟩
  rw [← hdd] at D2 ⊢
  clear hd hdd
  go_wp2_with fail
  refine (open_calls D2.out T1.out 0 (by decide) 0 (fun n => by simp [mDel, bytesOf]) (by simp)).mono ?_
  rintro e x3 ⟨hok, -⟩
  obtain ⟨lb, rfl, hl3⟩ := hok (by rw [open_first.1])
  rw [open_first.1, open_first.2] at hl3
  have hl3' : Lg [] x1 x3 lb d rBig 0 [] [] := hl3
  obtain ⟨L0, hL0, hge0⟩ := hl3'.start
  have K0 : Hid (Kept w x3 lb d 0 0 [] (fun _ => []) L0 [] (.slice none 0 0)) := Lib.hid ⟨hL0, fun k hk => Nat.le_trans B1.out.size (hge0 k hk), Txs.nil _ _, by simp [tot], Sg.empty, rfl, by simp, B1.out.trans (hl3'.1.belowAll.mono B1.out.size)⟩
  clear hl3 hl3' hok D2 hL0 hge0 T1
  go_wp2_with fail
  go_loopw [11, 12] (fun v i wr => ∃ (k a : Nat) (T : List (List UInt8)) (S : Nat → List (List UInt8)) (L : List Nat) (M : List Fm), k ≤ l0.length ∧ k ≤ 12 ∧ i = .int .i64 k ∧ Kept w wr lb d k a T S L M v) (fun _ i _ => 12 - (intOf i).toNat)
  case atStart => exact ⟨0, 0, [], _, L0, [], by omega, by omega, rfl, K0.out⟩
  case round =>
    clear K0 B1
    obtain ⟨k, a, T, S, L, M, hk, hk12, rfl, hkp⟩ := hrel
    have KP := Lib.hid hkp
    have hak := hkp.few.1
    have hTk := hkp.few.2.1
    obtain ⟨av, cv, hv, -⟩ := hkp.row.form
    subst hv
    clear hkp
    by_cases hlt : k < l0.length ∧ k < 12
    · obtain ⟨hl, h12⟩ := hlt
      obtain ⟨ob, off, ha0, hob, hop⟩ := H0.out.at (by intro e; rw [e] at hl; simp at hl)
      subst ha0
      obtain ⟨ax, cx, hcell, hslx⟩ := hop k hl
      have hz := (KP.out.bel.cell (p := ⟨ob, off + k, none⟩) hob).trans hcell
      have hsx := hslx.belowAll KP.out.bel
      clear hop hcell hslx
      generalize l0.getD k [] = x at hz hsx
      obtain ⟨nx, hnx⟩ : ∃ nx, nx = x.length := ⟨_, rfl⟩
      have hd12 : decide ((k : Int) < 12) = true := by simp; omega
      have CSH := Lib.hid (short_new ax cx 60 x wr hsx (by omega))
      rw [← hnx] at hz CSH
      clear hsx hnx
      go_wp2_with fail
      refine CSH.out.mono ?_
      rintro e x4 ⟨ao, co, rfl, hs4, hb4, ha4⟩
      obtain ⟨y, hy⟩ : ∃ y, y = x.take 60 := ⟨_, rfl⟩
      have hy60 : y.length ≤ 60 := by rw [hy, List.length_take]; omega
      rw [← hy] at hs4 ⊢
      have t4 := Turn.of_below hb4 []
      have LA4 := Lib.hid (KP.out.log.shift t4 (by simp) (by simp))
      have hsz4 := hb4.size
      have S4 := Lib.hid hs4
      have A4 := Lib.hid ha4
      have B4 := Lib.hid (KP.out.bel.trans (hb4.mono KP.out.bel.size))
      have R4 := Lib.hid ((KP.out.row.imp (Q := fun g => (g ∉ L ∧ w.heap.size ≤ g) ∧ g < wr.heap.size) (fun g hg hp => ⟨hp, hg⟩)).turn t4 (fun _ _ => by simp))
      clear hy hs4 ha4 hb4 t4 hz CSH
      by_cases hye : y = []
      · subst hye
        have hd0 : decide (0 < ([] : List UInt8).length) = false := rfl
        go_wp2_with fail
        refine (add_form LA4.out.1 ao co [] (by decide)).mono ?_
        rintro e x5 ⟨rfl, rfl⟩
        have K5 : Hid (Kept w x4 lb d k a T S L M (.slice av T.length cv)) := Lib.hid ⟨LA4.out, KP.out.ge, R4.out.imp (fun g _ hp => hp.1), KP.out.few, KP.out.sg, KP.out.cat, KP.out.short, B4.out⟩
        clear KP LA4 R4 S4 A4 B4
        obtain ⟨nT, hnT⟩ : ∃ n, n = T.length := ⟨_, rfl⟩
        have HNT := Lib.hid hnT
        rw [← hnT] at K5 hTk ⊢
        clear hnT
        by_cases hl1 : k < l1.length
        · obtain ⟨ob1, off1, ha1, hob1, hop1⟩ := H1.out.at (by intro e; rw [e] at hl1; simp at hl1)
          subst ha1
          have hz1 := (K5.out.bel.cell (p := ⟨ob1, off1 + k, none⟩) hob1).trans (hop1 k hl1)
          clear hop1
          cases hfl : l1.getD k false with
          | false =>
            rw [hfl] at hz1
            go_wp2
            go_roundw
            case rel => exact ⟨k + 1, a, T, S, L, M, by omega, by omega, by go_num, ⟨K5.out.log, K5.out.ge, K5.out.row, ⟨by omega, by have := K5.out.few.2.1; omega, by have := K5.out.few.2.2; omega⟩, K5.out.sg, K5.out.cat, K5.out.short, K5.out.bel⟩⟩
            case measure => simp [intOf]; omega
          | true =>
            rw [hfl] at hz1
            have CN := Lib.hid (next_calls K5.out.log.1 (by omega))
            go_wp2_with fail
            refine CN.out.mono ?_
            rintro e x8 ⟨rfl, h8⟩
            obtain ⟨L8, hL8, hin8⟩ := h8.next
            have t8 := h8.1
            have K8 : Hid (Kept w x8 lb d (k + 1) (a + 1) T S L8 (synM M (segName a)) (.slice av nT cv)) := Lib.hid ⟨hL8, fun j hj => by
                rcases hin8 j hj with h1 | h1
                · exact K5.out.ge j h1
                · exact Nat.le_trans K5.out.bel.size h1, ((K5.out.row.imp (Q := fun g => (g ∉ L ∧ w.heap.size ≤ g) ∧ g < (x4).heap.size) (fun g hg hp => ⟨hp, hg⟩)).turn t8 (fun g hg => hg.1.1)).imp (fun g _ hg => ⟨fun hm => by
                  rcases hin8 g hm with h4 | h4
                  · exact hg.1.1 h4
                  · have := hg.2; omega, hg.1.2⟩), ⟨by have := K5.out.few.1; omega, by have := K5.out.few.2.1; omega, by rw [tot_syn]; have := K5.out.few.2.2; omega⟩, K5.out.sg.next, by
                  have h1 := K5.out.sg.cat_next (Nat.zero_le _)
                  rw [Nat.sub_zero, Nat.sub_zero] at h1
                  rw [h1]
                  exact K5.out.cat, K5.out.short, K5.out.bel.trans (t8.below K5.out.ge K5.out.bel.size)⟩
            clear hL8 hin8 t8 h8 CN
            go_wp2
            go_roundw
            case rel => exact ⟨k + 1, a + 1, T, S, L8, _, by omega, by omega, by go_num, K8.out⟩
            case measure => simp [intOf]; omega
        · go_wp2
          go_roundw
          case rel => exact ⟨k + 1, a, T, S, L, M, by omega, by omega, by go_num, ⟨K5.out.log, K5.out.ge, K5.out.row, ⟨by omega, by have := K5.out.few.2.1; omega, by have := K5.out.few.2.2; omega⟩, K5.out.sg, K5.out.cat, K5.out.short, K5.out.bel⟩⟩
          case measure => simp [intOf]; omega
      · have hyp : 0 < y.length := List.length_pos_iff.2 hye
        have hok : okF y = true := okF_iff.2 ⟨by omega, by omega⟩
        have hnl : ∀ A, ao = some A → A.block ∉ L := fun A hA hm => by have h1 := KP.out.log.2 _ hm; have h2 := A4.out A hA; omega
        have htot : tot M ≤ 792 := by have := KP.out.few.2.2; omega
        have hto : addTo M a = a ∧ addM M a = M := by
          have h1 := bytesOf_le (M := M) (segName a)
          unfold addTo addM
          rw [if_neg (by omega), if_neg (by omega)]
          exact ⟨rfl, rfl⟩
        obtain ⟨ap1, ap2, ap3⟩ := app_big (M := M) (a := a) (b := y) KP.out.log.1.nodup (by omega) (by unfold rBig; omega)
        have CA := add_calls LA4.out.1 ao co y hok S4.out (fun A hA _ => hnl A hA) (by rw [hto.1]; omega) (by omega)
        rw [hto.1, hto.2, ap1, ap2] at CA
        have HCA := Lib.hid CA
        have HNL := Lib.hid hnl
        have SG5 := Lib.hid (KP.out.sg.add (b := y) (by omega) hok)
        have CT5 : Hid (T ++ [y] = catS (updS S a y) 0 (a + 1)) := Lib.hid (by
          have h1 := catS_upd KP.out.sg y 0 (Nat.zero_le _)
          rw [Nat.sub_zero] at h1
          rw [h1, ← KP.out.cat])
        have TT5 : Hid (tot (mApp (segName a) (frB y) M) ≤ 66 * (k + 1)) := Lib.hid (by rw [ap3]; have := KP.out.few.2.2; omega)
        clear CA hnl hok hto ap1 ap2 ap3 htot
        go_wp2_with fail
        refine HCA.out.mono ?_
        rintro e x5 ⟨rfl, hl5, -⟩
        have hl5' := hl5 (by trivial)
        obtain ⟨L', hL', hin'⟩ := hl5'.next
        have t5 := hl5'.1
        have S5 := Lib.hid (S4.out.turn t5 (fun A hA _ => HNL.out A hA))
        have R5 := Lib.hid (R4.out.turn t5 (fun g hg => hg.1.1))
        have B5 := Lib.hid (B4.out.trans (t5.below KP.out.ge B4.out.size))
        have LA5 := Lib.hid hL'
        have IN5 := Lib.hid hin'
        have hsz5 := t5.size
        have GE5 : Hid (∀ j ∈ L', w.heap.size ≤ j) := Lib.hid (fun j hj => by
          rcases IN5.out j hj with h1 | h1
          · exact KP.out.ge j h1
          · exact Nat.le_trans B4.out.size h1)
        clear hl5 hl5' t5 hL' hin' HCA R4 LA4
        obtain ⟨ny, hny⟩ : ∃ n, n = y.length := ⟨_, rfl⟩
        have HNY := Lib.hid hny
        rw [← hny] at hyp ⊢
        obtain ⟨nT, hnT⟩ : ∃ n, n = T.length := ⟨_, rfl⟩
        have HNT := Lib.hid hnT
        have hTk' := hTk
        rw [← hnT] at hTk' ⊢
        have tA := Turn.alloc [] x5 (.cells #[.slice ao ny co] 31)
        obtain ⟨xs, hxs, hfin⟩ := Txs.appended (P := fun g => (g ∉ L ∧ w.heap.size ≤ g) ∧ g < wr.heap.size) (U := [y]) (Q := fun g => g ∉ L' ∧ w.heap.size ≤ g) (R5.out.turn tA (fun _ _ => by simp)) [.slice ao ny co] rfl (fun i hi => by
          have hi0 : i = 0 := by simpa using hi
          subst hi0
          refine ⟨ao, co, by rw [HNY.out]; rfl, S5.out.turn tA (by simp), fun A hA _ => ?_⟩
          have h1 := A4.out A hA
          have h2 : A.block < x4.heap.size := by have h3 := S4.out; rw [hA] at h3; exact h3.lt (by intro e2; rw [e2] at hye; exact hye rfl)
          refine ⟨⟨fun hm => ?_, by have := KP.out.bel.size; omega⟩, fun e2 => ?_⟩
          · rcases IN5.out _ hm with h4 | h4
            · have := KP.out.log.2 _ h4; omega
            · omega
          · have := (R5.out.1 _ e2).2; omega) (fun g hg => ⟨fun hm => by
            rcases IN5.out _ hm with h4 | h4
            · exact hg.1.1 h4
            · have := hg.2; omega, hg.1.2⟩) (fun g hg => ⟨fun hm => by have := LA5.out.2 _ hm; simp at hg; omega, by have := B5.out.size; simp at hg; omega⟩)
        have HX := Lib.hid hxs
        have HF := Lib.hid hfin
        have HY1 : ∀ u ∈ [Value.slice ao ny co], u.oneCell' = true := by intro u hu; simp at hu; subst hu; rfl
        clear hxs hfin tA hnT hny
        rw [← HNT.out] at HX HF
        go_wp2_with (at_builtin; refine append_tx rfl (.tmp 45) (.tmp 47) rfl (.slice av nT cv) nT xs rfl HX.out ⟨x5.heap.size, 0, none⟩ 1 1 [.slice ao ny co] rfl rfl (one_new x5 _ _) HY1 (by omega) ?_)
        intro v7 x7 hown7 hg7 hat7
        have TX7 := HF.out v7 x7 hown7 hg7 (by rcases hat7 with h1 | h1; exact .inl h1; exact .inr (by rw [h1]; simp))
        have tg := (Turn.alloc (Value.slice av nT cv).ownBlock.toList x5 (.cells #[.slice ao ny co] 31)).trans (Turn.grown (l := (Value.slice av nT cv).ownBlock.toList) hg7 (fun k hk => .inl (by rw [hk]; simp))) (fun i hi => .inl hi)
        have hown : ∀ g ∈ (Value.slice av nT cv).ownBlock.toList, g ∉ L' ∧ w.heap.size ≤ g := fun g hg => by
          have h1 := R5.out.1 g (by rw [← HNT.out]; exact Option.mem_toList.1 hg)
          refine ⟨fun hm => ?_, h1.1.2⟩
          rcases IN5.out _ hm with h4 | h4
          · exact h1.1.1 h4
          · have := h1.2; omega
        have LA7 := LA5.out.shift tg (fun g hg => (hown g hg).1) (fun hm => by have h1 := (hown _ hm).2; have h2 := HTB.out.lt; omega)
        have B7 := B5.out.trans (tg.below (fun g hg => (hown g hg).2) B5.out.size)
        obtain ⟨a7, c7, hv7, -⟩ := TX7.form
        rw [List.length_append, List.length_singleton, ← HNT.out] at hv7
        subst hv7
        have K7 : Hid (Kept w x7 lb d (k + 1) a (T ++ [y]) (updS S a y) L' (mApp (segName a) (frB y) M) (.slice a7 (nT + 1) c7)) := Lib.hid ⟨LA7, GE5.out, TX7, ⟨by omega, by simp; omega, TT5.out⟩, SG5.out, CT5.out, fun t ht => by
          rcases List.mem_append.1 ht with h1 | h1
          · exact KP.out.short t h1
          · simp at h1; rw [h1]; exact hy60, B7⟩
        clear TX7 LA7 B7 tg hown hown7 hg7 hat7 KP S4 A4 B4 S5 R5 B5 LA5 IN5 GE5 HX HF SG5 CT5 TT5 HNL HY1 hTk'
        obtain ⟨T', hT'⟩ : ∃ T', T' = T ++ [y] := ⟨_, rfl⟩
        rw [← hT'] at K7
        generalize updS S a y = S' at K7
        generalize mApp (segName a) (frB y) M = M' at K7
        clear hT'
        by_cases hl1 : k < l1.length
        · obtain ⟨ob1, off1, ha1, hob1, hop1⟩ := H1.out.at (by intro e; rw [e] at hl1; simp at hl1)
          subst ha1
          have hz1 := (K7.out.bel.cell (p := ⟨ob1, off1 + k, none⟩) hob1).trans (hop1 k hl1)
          clear hop1
          cases hfl : l1.getD k false with
          | false =>
            rw [hfl] at hz1
            go_wp2
            go_roundw
            case rel => exact ⟨k + 1, a, T', S', L', M', by omega, by omega, by go_num, K7.out⟩
            case measure => simp [intOf]; omega
          | true =>
            rw [hfl] at hz1
            have CN := Lib.hid (next_calls K7.out.log.1 (by omega))
            go_wp2_with fail
            refine CN.out.mono ?_
            rintro e x8 ⟨rfl, h8⟩
            obtain ⟨L8, hL8, hin8⟩ := h8.next
            have t8 := h8.1
            have K8 : Hid (Kept w x8 lb d (k + 1) (a + 1) T' S' L8 (synM M' (segName a)) (.slice a7 (nT + 1) c7)) := Lib.hid ⟨hL8, fun j hj => by
                rcases hin8 j hj with h1 | h1
                · exact K7.out.ge j h1
                · exact Nat.le_trans K7.out.bel.size h1, ((K7.out.row.imp (Q := fun g => (g ∉ L' ∧ w.heap.size ≤ g) ∧ g < (x7).heap.size) (fun g hg hp => ⟨hp, hg⟩)).turn t8 (fun g hg => hg.1.1)).imp (fun g _ hg => ⟨fun hm => by
                  rcases hin8 g hm with h4 | h4
                  · exact hg.1.1 h4
                  · have := hg.2; omega, hg.1.2⟩), ⟨by have := K7.out.few.1; omega, by have := K7.out.few.2.1; omega, by rw [tot_syn]; have := K7.out.few.2.2; omega⟩, K7.out.sg.next, by
                  have h1 := K7.out.sg.cat_next (Nat.zero_le _)
                  rw [Nat.sub_zero, Nat.sub_zero] at h1
                  rw [h1]
                  exact K7.out.cat, K7.out.short, K7.out.bel.trans (t8.below K7.out.ge K7.out.bel.size)⟩
            clear hL8 hin8 t8 h8 CN
            go_wp2
            go_roundw
            case rel => exact ⟨k + 1, a + 1, T', S', L8, _, by omega, by omega, by go_num, K8.out⟩
            case measure => simp [intOf]; omega
        · go_wp2
          go_roundw
          case rel => exact ⟨k + 1, a, T', S', L', M', by omega, by omega, by go_num, K7.out⟩
          case measure => simp [intOf]; omega
    · have K5 := KP
      clear KP
      by_cases hl : k < l0.length
      · have hd12 : decide ((k : Int) < 12) = false := by simp; omega
        go_wp2_with fail
        refine (force_calls K5.out.log.1).mono ?_
        rintro e x6 ⟨rfl, h6⟩
        have t6 := h6.1
        obtain ⟨hsg, hsure⟩ := K5.out.sg.force
        have htot : tot (synM M (segName a)) ≤ 792 := by rw [tot_syn]; have := K5.out.few.2.2; omega
        obtain ⟨_, _, _, _, _, _, lD, _, hD, _, _⟩ := h6
        have B6 := K5.out.bel.trans (t6.below K5.out.ge K5.out.bel.size)
        have R6 := (K5.out.row.turn t6 (fun g hg => hg.1)).imp (Q := fun g => w.heap.size ≤ g) (fun g _ hg => hg.2)
        have CT := Lib.hid K5.out.cat
        have SH := Lib.hid K5.out.short
        obtain ⟨Mf, hMf⟩ : ∃ Mf, Mf = synM M (segName a) := ⟨_, rfl⟩
        rw [← hMf] at hsg hsure htot hD
        have SGF := Lib.hid hsg
        have SUR := Lib.hid hsure
        have TOT := Lib.hid htot
        have DF := Lib.hid hD
        have BF := Lib.hid B6
        have RF := Lib.hid R6
        clear hsg hsure htot hD B6 R6 t6 hMf K5 hd12
        obtain ⟨nT, hnT⟩ : ∃ n, n = T.length := ⟨_, rfl⟩
        have HNT := Lib.hid hnT
        rw [← hnT] at RF hTk ⊢
        clear hnT
        go_wp2_with fail
        go_loopw [8, 9, 10, 14] (fun dv _ _ i wr => ∃ (k2 dd : Nat) (l : List Nat), k2 ≤ l2.length ∧ k2 ≤ 4 ∧ i = .int .i64 k2 ∧ dv = .pointer (some ⟨dd, 0, none⟩) ∧ DiskM wr dd rBig l Mf ∧ Txs wr (fun g => w.heap.size ≤ g) (.slice av nT cv) T ∧ Below w.heap.size w wr) (fun _ _ _ i _ => 4 - (intOf i).toNat)
        case atStart => exact ⟨0, d, lD, by omega, by omega, rfl, rfl, DF.out, RF.out, BF.out⟩
        case round =>
          clear DF RF BF
          obtain ⟨k2, dd, lD2, hk2, hk4, rfl, rfl, hD, hR, hB⟩ := hrel
          have DF := Lib.hid hD
          have RF := Lib.hid hR
          have BF := Lib.hid hB
          clear hD hR hB
          by_cases hlt2 : k2 < l2.length ∧ k2 < 4
          · obtain ⟨hl2, h4⟩ := hlt2
            obtain ⟨ob2, off2, ha2, hob2, hop2⟩ := H2.out.at (by intro e; rw [e] at hl2; simp at hl2)
            subst ha2
            have hz2 := (BF.out.cell (p := ⟨ob2, off2 + k2, none⟩) hob2).trans (hop2 k2 hl2)
            have hrg := H2.out.rng hl2
            clear hop2
            generalize l2.getD k2 0 = z at hz2 hrg
            have hd4 : decide ((k2 : Int) < 4) = true := by simp; omega
            have CF := Lib.hid (fall_new z hrg DF.out SUR.out (by have := seg_few (lo := 0) DF.out.nodup (fun f hf => by obtain ⟨j, h1, h2⟩ := SGF.out.names f hf; exact ⟨j, Nat.zero_le _, h1, h2⟩); omega))
            clear hrg
            go_wp2_with fail
            refine CF.out.mono ?_
            rintro e y1 ⟨bb, rfl, hd1⟩
            have TW := HTB.out.turn (Turn.of_below BF.out []) (by simp)
            obtain ⟨ho1, ho2, ho3⟩ := SGF.out.open (by omega) rBig (Nat.zero_le a)
            have CO := open_calls hd1 TW 0 (by decide) 792 (fun n => by rw [SGF.out.del]; exact Nat.le_trans (bytesOf_le _) TOT.out) (by
              have h1 : (openAt Mf 0 + 1 - 0) * 792 ≤ 13 * 792 := Nat.mul_le_mul_right _ (by omega)
              omega)
            rw [ho1, Nat.sub_zero, ← CT.out] at CO
            have HCO := Lib.hid CO
            have D1 := Lib.hid hd1
            clear CO ho1 ho2 ho3 TW hd1 CF hz2
            go_wp2_with fail
            refine HCO.out.mono ?_
            rintro e y2 ⟨hok2, -⟩
            obtain ⟨lb2, rfl, hl2'⟩ := hok2 (by trivial)
            have L2 := Lib.hid hl2'
            clear hok2 hl2' HCO D1
            go_wp2_with fail
            have CALL := all_calls L2.out (fun i hi => by have := SH.out _ (List.getElem_mem hi); omega)
            rw [← HNT.out] at CALL
            refine CALL.mono ?_
            rintro e y3 ⟨rfl, htx, hb3⟩
            have R2 := (RF.out.turn L2.out.1 (fun _ _ => by simp)).turn (Turn.of_below hb3 []) (fun _ _ => by simp)
            have CEQ := eq_calls _ _ _ _ T y3 htx.tl.2 R2.tl.2
            rw [← HNT.out] at CEQ
            have HEQ := Lib.hid CEQ
            have RF2 := Lib.hid R2
            have BF2 := Lib.hid ((BF.out.trans (L2.out.1.belowAll.mono BF.out.size)).trans (hb3.mono (Nat.le_trans BF.out.size L2.out.1.size)))
            have L3 := L2.out.below hb3
            obtain ⟨_, _, _, _, _, _, lD3, _, hD3, _, _⟩ := L3
            have DF2 := Lib.hid hD3
            clear CALL CEQ htx hb3 R2 hD3 L2
            go_wp2_with fail
            refine HEQ.out.mono ?_
            rintro e y4 ⟨rfl, hb4⟩
            have DF4 := Lib.hid (DF2.out.belowAll hb4)
            have RF4 := Lib.hid (RF2.out.turn (Turn.of_below hb4 []) (fun _ _ => by simp))
            have BF4 := Lib.hid (BF2.out.trans (hb4.mono BF2.out.size))
            clear hb4
            go_wp2
            go_roundw
            case rel => exact ⟨k2 + 1, bb, lD3, by omega, by omega, by go_num, rfl, DF4.out, RF4.out, BF4.out⟩
            case measure => simp [intOf]; omega
          · by_cases hl2 : k2 < l2.length
            · have hd4 : decide ((k2 : Int) < 4) = false := by simp; omega
              go_wp2
              go_ret
              exact ⟨rfl, BF.out⟩
            · go_wp2
              go_ret
              exact ⟨rfl, BF.out⟩
      · go_wp2_with fail
        refine (force_calls K5.out.log.1).mono ?_
        rintro e x6 ⟨rfl, h6⟩
        have t6 := h6.1
        obtain ⟨hsg, hsure⟩ := K5.out.sg.force
        have htot : tot (synM M (segName a)) ≤ 792 := by rw [tot_syn]; have := K5.out.few.2.2; omega
        obtain ⟨_, _, _, _, _, _, lD, _, hD, _, _⟩ := h6
        have B6 := K5.out.bel.trans (t6.below K5.out.ge K5.out.bel.size)
        have R6 := (K5.out.row.turn t6 (fun g hg => hg.1)).imp (Q := fun g => w.heap.size ≤ g) (fun g _ hg => hg.2)
        have CT := Lib.hid K5.out.cat
        have SH := Lib.hid K5.out.short
        obtain ⟨Mf, hMf⟩ : ∃ Mf, Mf = synM M (segName a) := ⟨_, rfl⟩
        rw [← hMf] at hsg hsure htot hD
        have SGF := Lib.hid hsg
        have SUR := Lib.hid hsure
        have TOT := Lib.hid htot
        have DF := Lib.hid hD
        have BF := Lib.hid B6
        have RF := Lib.hid R6
        clear hsg hsure htot hD B6 R6 t6 hMf K5
        obtain ⟨nT, hnT⟩ : ∃ n, n = T.length := ⟨_, rfl⟩
        have HNT := Lib.hid hnT
        rw [← hnT] at RF hTk ⊢
        clear hnT
        go_wp2_with fail
        go_loopw [8, 9, 10, 14] (fun dv _ _ i wr => ∃ (k2 dd : Nat) (l : List Nat), k2 ≤ l2.length ∧ k2 ≤ 4 ∧ i = .int .i64 k2 ∧ dv = .pointer (some ⟨dd, 0, none⟩) ∧ DiskM wr dd rBig l Mf ∧ Txs wr (fun g => w.heap.size ≤ g) (.slice av nT cv) T ∧ Below w.heap.size w wr) (fun _ _ _ i _ => 4 - (intOf i).toNat)
        case atStart => exact ⟨0, d, lD, by omega, by omega, rfl, rfl, DF.out, RF.out, BF.out⟩
        case round =>
          clear DF RF BF
          obtain ⟨k2, dd, lD2, hk2, hk4, rfl, rfl, hD, hR, hB⟩ := hrel
          have DF := Lib.hid hD
          have RF := Lib.hid hR
          have BF := Lib.hid hB
          clear hD hR hB
          by_cases hlt2 : k2 < l2.length ∧ k2 < 4
          · obtain ⟨hl2, h4⟩ := hlt2
            obtain ⟨ob2, off2, ha2, hob2, hop2⟩ := H2.out.at (by intro e; rw [e] at hl2; simp at hl2)
            subst ha2
            have hz2 := (BF.out.cell (p := ⟨ob2, off2 + k2, none⟩) hob2).trans (hop2 k2 hl2)
            have hrg := H2.out.rng hl2
            clear hop2
            generalize l2.getD k2 0 = z at hz2 hrg
            have hd4 : decide ((k2 : Int) < 4) = true := by simp; omega
            have CF := Lib.hid (fall_new z hrg DF.out SUR.out (by have := seg_few (lo := 0) DF.out.nodup (fun f hf => by obtain ⟨j, h1, h2⟩ := SGF.out.names f hf; exact ⟨j, Nat.zero_le _, h1, h2⟩); omega))
            clear hrg
            go_wp2_with fail
            refine CF.out.mono ?_
            rintro e y1 ⟨bb, rfl, hd1⟩
            have TW := HTB.out.turn (Turn.of_below BF.out []) (by simp)
            obtain ⟨ho1, ho2, ho3⟩ := SGF.out.open (by omega) rBig (Nat.zero_le a)
            have CO := open_calls hd1 TW 0 (by decide) 792 (fun n => by rw [SGF.out.del]; exact Nat.le_trans (bytesOf_le _) TOT.out) (by
              have h1 : (openAt Mf 0 + 1 - 0) * 792 ≤ 13 * 792 := Nat.mul_le_mul_right _ (by omega)
              omega)
            rw [ho1, Nat.sub_zero, ← CT.out] at CO
            have HCO := Lib.hid CO
            have D1 := Lib.hid hd1
            clear CO ho1 ho2 ho3 TW hd1 CF hz2
            go_wp2_with fail
            refine HCO.out.mono ?_
            rintro e y2 ⟨hok2, -⟩
            obtain ⟨lb2, rfl, hl2'⟩ := hok2 (by trivial)
            have L2 := Lib.hid hl2'
            clear hok2 hl2' HCO D1
            go_wp2_with fail
            have CALL := all_calls L2.out (fun i hi => by have := SH.out _ (List.getElem_mem hi); omega)
            rw [← HNT.out] at CALL
            refine CALL.mono ?_
            rintro e y3 ⟨rfl, htx, hb3⟩
            have R2 := (RF.out.turn L2.out.1 (fun _ _ => by simp)).turn (Turn.of_below hb3 []) (fun _ _ => by simp)
            have CEQ := eq_calls _ _ _ _ T y3 htx.tl.2 R2.tl.2
            rw [← HNT.out] at CEQ
            have HEQ := Lib.hid CEQ
            have RF2 := Lib.hid R2
            have BF2 := Lib.hid ((BF.out.trans (L2.out.1.belowAll.mono BF.out.size)).trans (hb3.mono (Nat.le_trans BF.out.size L2.out.1.size)))
            have L3 := L2.out.below hb3
            obtain ⟨_, _, _, _, _, _, lD3, _, hD3, _, _⟩ := L3
            have DF2 := Lib.hid hD3
            clear CALL CEQ htx hb3 R2 hD3 L2
            go_wp2_with fail
            refine HEQ.out.mono ?_
            rintro e y4 ⟨rfl, hb4⟩
            have DF4 := Lib.hid (DF2.out.belowAll hb4)
            have RF4 := Lib.hid (RF2.out.turn (Turn.of_below hb4 []) (fun _ _ => by simp))
            have BF4 := Lib.hid (BF2.out.trans (hb4.mono BF2.out.size))
            clear hb4
            go_wp2
            go_roundw
            case rel => exact ⟨k2 + 1, bb, lD3, by omega, by omega, by go_num, rfl, DF4.out, RF4.out, BF4.out⟩
            case measure => simp [intOf]; omega
          · by_cases hl2 : k2 < l2.length
            · have hd4 : decide ((k2 : Int) < 4) = false := by simp; omega
              go_wp2
              go_ret
              exact ⟨rfl, BF.out⟩
            · go_wp2
              go_ret
              exact ⟨rfl, BF.out⟩

end Go.Proofs.YtjdpglmphacfjaaGreatDoor
