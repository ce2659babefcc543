/-
  The walks of byt.Out: put, Small, Long, Text, Truth: what stands in B behind each.
-/
import Derived.Test.YtanjbbmgpodbgaaSlice
namespace Go.Proofs.Ytanjbbmgpodbgaa
open Go.RowKit

/-- From w to w' nothing that was there has turned but the cell at p. -/
structure Only (p : Addr) (w w' : World) : Prop where
  os : w'.os = w.os
  tape : w'.tape = w.tape
  output : w'.output = w.output
  size : w.heap.size ≤ w'.heap.size
  block : ∀ k, k < w.heap.size → k ≠ p.block → w'.heap[k]? = w.heap[k]?
  cell : ∀ q : Addr, q.block < w.heap.size → q ≠ p → w'.cell? q = w.cell? q
  frozen : ∀ q : Addr, q.block < w.heap.size → w'.frozen? q = w.frozen? q

theorem new_below (w : World) (o : Obj) : Below w.heap.size w (w.alloc o) := (Below.refl _ _).alloc (Nat.le_refl _) o

theorem Only.refl (p : Addr) (w : World) : Only p w w := ⟨rfl, rfl, rfl, Nat.le_refl _, fun _ _ _ => rfl, fun _ _ _ => rfl, fun _ _ => rfl⟩

theorem Only.trans {p : Addr} {a b c : World} (h : Only p a b) (k : Only p b c) : Only p a c :=
  ⟨k.os.trans h.os, k.tape.trans h.tape, k.output.trans h.output, Nat.le_trans h.size k.size,
   fun i hi hp => (k.block i (Nat.lt_of_lt_of_le hi h.size) hp).trans (h.block i hi hp),
   fun q hq hp => (k.cell q (Nat.lt_of_lt_of_le hq h.size) hp).trans (h.cell q hq hp),
   fun q hq => (k.frozen q (Nat.lt_of_lt_of_le hq h.size)).trans (h.frozen q hq)⟩

theorem Only.of_below {p : Addr} {w w' : World} (h : Below w.heap.size w w') : Only p w w' :=
  ⟨h.os, h.tape, h.output, h.size, fun k hk _ => h.block k hk, fun _ hq _ => h.cell hq, fun _ hq => h.frozen hq⟩

theorem Only.below {p : Addr} {B : Nat} {a w w' : World} (h : Only p w w') (hp : B ≤ p.block) (hB : B ≤ w.heap.size) (hb : Below B a w) : Below B a w' :=
  hb.trans ⟨h.os, h.tape, h.output, h.size, fun k hk => h.block k (by omega) (by omega)⟩

theorem Only.store {p : Addr} {w w1 : World} (h : Below w.heap.size w w1) (v : Value) : Only p w (w1.setCell p v) := by
  refine ⟨h.os, h.tape, h.output, by simpa [World.setCell] using h.size, fun k hk hp => ?_, fun q hq hp => ?_, fun q hq => ?_⟩
  · rw [Below.heap_setCell _ _ _ _ hp]; exact h.block k hk
  · rw [← h.cell hq]; exact World.cell?_setCell_other _ _ _ _ (Ne.symm hp)
  · rw [← h.frozen hq]; exact World.frozen?_setCell ..

/-- .. and the slice that stands at p lies in new memory. -/
structure OnlyN (p : Addr) (w w' : World) : Prop extends Only p w w' where
  fresh : ∀ ao n c A, w'.cell? p = some (.slice ao n c) → ao = some A → w.heap.size ≤ A.block

/-- A slice's bytes stay where one cell that holds no byte turns. -/
theorem Sl.only {p : Addr} {w w' : World} {ao : Option Addr} {c : Nat} {l : List UInt8} (h : Sl w ao c l) (ho : Only p w w') {v : Value} (hp : w.cell? p = some v) (hv : ∀ n, v ≠ .int .u8 n) : Sl w' ao c l := by
  rcases h with h | ⟨A, hA, h1, h2, hc⟩
  · exact .inl h
  · refine .inr ⟨A, hA, h1, h2, fun i hi => ?_⟩
    have hu := hc i hi
    rw [ho.cell _ (World.block_lt_of_cell? _ _ hu) (by
      intro e
      rw [e, hp] at hu
      exact hv _ (Option.some.inj hu))]
    exact hu

theorem own_below {w w' : World} {B e s n : Nat} {v : Value} {xs : List Value} (h : w.ownsRow B e s v n xs) (hb : Below w.heap.size w w') : w'.ownsRow B e s v n xs := by
  refine ⟨h.1, ?_⟩
  rcases h.2 with h0 | ⟨g, cap, cur, hv, hB, hg, rest⟩
  · exact .inl h0
  · exact .inr ⟨g, cap, cur, hv, hB, (hb.block g (Array.getElem?_eq_some_iff.1 hg).1).trans hg, rest⟩

theorem own_zero {w : World} {B e s n : Nat} {v : Value} {xs : List Value} (h : w.ownsRow B e s v n xs) : w.ownsRow 0 e s v n xs := by
  refine ⟨h.1, ?_⟩
  rcases h.2 with h0 | ⟨g, cap, cur, hv, hB, rest⟩
  · exact .inl h0
  · exact .inr ⟨g, cap, cur, hv, Nat.zero_le _, rest⟩

/-- An Out at p has the bytes l. -/
def OutIs (w : World) (p : Addr) (l : List UInt8) : Prop :=
  ∃ ao c, w.cell? p = some (.slice ao l.length c) ∧ Sl w ao c l ∧ w.frozen? p = false ∧ w.ownsRow 0 5 1 (.slice ao l.length c) l.length (u8s l)

set_option maxHeartbeats 400000 in
theorem put_calls (ob oo : Nat) (a1 a2 : Option Addr) (c1 c2 : Nat) (l1 l2 : List UInt8) (w : World)
    (hp : w.cell? ⟨ob, oo, none⟩ = some (.slice a1 l1.length c1)) (hf : w.frozen? ⟨ob, oo, none⟩ = false) (h1 : Sl w a1 c1 l1) (h2 : Sl w a2 c2 l2)
    (hb : l1.length + l2.length ≤ 140737488355328) :
    Calls Try.prog 67 #[.pointer (some ⟨ob, oo, none⟩), .slice a2 l2.length c2] w fun e w' => e = .returned (.tuple #[]) ∧ OutIs w' ⟨ob, oo, none⟩ (l1 ++ l2) ∧ OnlyN ⟨ob, oo, none⟩ w w' := by
  have hlt := World.block_lt_of_cell? _ _ hp
  go_enter Try.func67, Try.ntmps67
  go_wp2_with fail
  have hA : ∀ o, Sl (w.alloc o) a1 c1 l1 := fun o => h1.belowAll ((Below.refl _ _).alloc (Nat.le_refl _) o)
  have hB : ∀ o, Sl (w.alloc o) a2 c2 l2 := fun o => h2.belowAll ((Below.refl _ _).alloc (Nat.le_refl _) o)
  refine (concat_calls w.heap.size 0 2 a1 a2 c1 c2 l1 l2 _ (by go_simp) (by go_simp) (hA _) (hB _) hb).mono ?_
  rintro e w1 ⟨v, rfl, hown, hbel⟩
  have hb1 : Below w.heap.size w w1 := ((Below.refl _ _).alloc (Nat.le_refl _) _).trans (hbel.mono (by simp))
  have hp1 := (hb1.cell (p := ⟨ob, oo, none⟩) hlt).trans hp
  have hf1 := (hb1.frozen (p := ⟨ob, oo, none⟩) hlt).trans hf
  obtain ⟨ao, c, hv, hsl, hnew⟩ := Sl.of_owns hown
  have HNew := Lib.hid hnew
  clear hnew
  subst hv
  have HOwn := Lib.hid (own_zero (ownsRow_setCell_below hown (a := ⟨ob, oo, none⟩) (Nat.lt_of_lt_of_le hlt (new_below w _).size) (.slice ao (l1 ++ l2).length c)))
  go_wp2_with fail
  go_end0
  have ho := Only.store (p := ⟨ob, oo, none⟩) hb1 (.slice ao (l1 ++ l2).length c)
  rw [← List.length_append]
  refine ⟨rfl, ⟨ao, c, World.cell?_setCell_same _ _ _ hp1, ?_, by rw [World.frozen?_setCell]; exact hf1, HOwn.out⟩, ho, fun ao' n' c' A h1 h2 => ?_⟩
  exact hsl.only (p := ⟨ob, oo, none⟩) ⟨rfl, rfl, rfl, by simp [World.setCell], fun k _ hk => Below.heap_setCell _ _ _ _ hk, fun q _ hq => World.cell?_setCell_other _ _ _ _ (Ne.symm hq), fun q _ => World.frozen?_setCell ..⟩ hp1 (by intro n h; cases h)
  rw [World.cell?_setCell_same _ _ _ hp1] at h1
  injection h1 with h1
  injection h1 with e1 e2 e3
  rw [← e1] at h2
  exact Nat.le_trans (new_below w _).size (HNew.out A h2)

theorem OutIs.alloc {w : World} {p : Addr} {l : List UInt8} (h : OutIs w p l) {w' : World} (hb : Below w.heap.size w w') : OutIs w' p l := by
  obtain ⟨ao, c, hp, hs, hf, hw⟩ := h
  have hlt := World.block_lt_of_cell? _ _ hp
  exact ⟨ao, c, (hb.cell hlt).trans hp, hs.belowAll hb, (hb.frozen hlt).trans hf, own_below hw hb⟩

theorem put_out (ob oo : Nat) (a2 : Option Addr) (c2 n2 : Nat) (l1 l2 : List UInt8) (w : World) (ho : OutIs w ⟨ob, oo, none⟩ l1) (hn : l2.length = n2) (h2 : Sl w a2 c2 l2)
    (hb : l1.length + l2.length ≤ 140737488355328) :
    Calls Try.prog 67 #[.pointer (some ⟨ob, oo, none⟩), .slice a2 n2 c2] w fun e w' => e = .returned (.tuple #[]) ∧ OutIs w' ⟨ob, oo, none⟩ (l1 ++ l2) ∧ OnlyN ⟨ob, oo, none⟩ w w' := by
  obtain ⟨a1, c1, hp, hs, hf, -⟩ := ho
  subst hn
  exact put_calls ob oo a1 a2 c1 c2 l1 l2 w hp hf hs h2 hb

theorem OnlyN.after_alloc {p : Addr} {w w' : World} {o : Obj} (h : OnlyN p (w.alloc o) w') : OnlyN p w w' :=
  ⟨(Only.of_below (new_below w o)).trans h.toOnly, fun ao n c A h1 h2 => Nat.le_trans (new_below w o).size (h.fresh ao n c A h1 h2)⟩

/-- A new row of bytes. -/
theorem Sl.made (w : World) (cs : Array Value) (e : TypeId) (l : List UInt8) (h : cs.toList = u8s l) (hm : l.length ≤ maxLen) : Sl (w.alloc (.cells cs e)) (some ⟨w.heap.size, 0, none⟩) l.length l := by
  refine .inr ⟨_, rfl, Nat.le_refl _, hm, fun i hi => ?_⟩
  rw [Addr.add_lit, Nat.zero_add, World.cell?_alloc_at (hn := rfl)]
  rw [← u8s_at hi, ← h]
  simp

/-- '[]byte(x)' in new memory. -/
theorem Sl.bytes (w : World) (x : ByteArray) (cap : Nat) (e : TypeId) (fr : Nat × Nat) (h : x.size ≤ cap) (hm : cap ≤ maxLen) :
    Sl (w.alloc (.cells (bytesRow x cap) e fr)).drew (some ⟨w.heap.size, 0, none⟩) cap x.data.toList := by
  refine .inr ⟨_, rfl, by simpa using h, hm, fun i hi => ?_⟩
  have hi' : i < x.data.size := by simpa using hi
  rw [Addr.add_lit, Nat.zero_add]
  show (w.alloc (.cells (bytesRow x cap) e fr)).cell? _ = _
  rw [World.cell?_alloc_mark, bytesRow_at x cap i hi']
  simp [List.getD]
  rw [Array.getElem?_eq_getElem hi']
  rfl

theorem extract_front (s : ByteArray) (n : Nat) : (s.extract 0 n).data.toList = s.data.toList.take n := by
  rw [ByteArray.data_extract, Array.toList_extract]
  simp [List.extract]

/-- The two bytes of a number. -/
def smallB (n : Int) : List UInt8 := [UInt8.ofNat (n % 256).toNat, UInt8.ofNat (n / 256 % 256).toNat]

theorem u8_ofNat {n : Int} (h0 : 0 ≤ n) (h1 : n < 256) : ((UInt8.ofNat n.toNat).toNat : Int) = n := by
  rw [UInt8.toNat_ofNat']
  omega

theorem smallB_cells (n : Int) : u8s (smallB n) = [.int .u8 (n % 256), .int .u8 (n / 256 % 256)] := by
  unfold u8s smallB
  simp only [List.map_cons, List.map_nil]
  rw [u8_ofNat (by omega) (by omega), u8_ofNat (by omega) (by omega)]

set_option maxHeartbeats 400000 in
theorem small_out (ob oo : Nat) (l : List UInt8) (n : Int) (w : World) (ho : OutIs w ⟨ob, oo, none⟩ l) (hb : l.length ≤ 140737488000000) :
    Calls Try.prog 49 #[.pointer (some ⟨ob, oo, none⟩), .int .i64 n] w fun e w' => e = .returned (.tuple #[]) ∧ OutIs w' ⟨ob, oo, none⟩ (l ++ smallB n) ∧ OnlyN ⟨ob, oo, none⟩ w w' := by
  go_enter Try.func49, Try.ntmps49
  go_wp2_with fail
  refine (put_out ob oo _ 2 2 l (smallB n) _ (ho.alloc (new_below _ _)) rfl (Sl.made w _ 5 (smallB n) (smallB_cells n).symm (by simp [smallB, maxLen])) (by simp [smallB]; omega)).mono ?_
  rintro e w1 ⟨rfl, hout, hon⟩
  have HO := Lib.hid hout
  clear hout
  go_wp2_with fail
  go_end0
  exact ⟨rfl, HO.out, hon.after_alloc⟩

set_option maxHeartbeats 400000 in
theorem truth_out (ob oo : Nat) (l : List UInt8) (b : Bool) (w : World) (ho : OutIs w ⟨ob, oo, none⟩ l) (hb : l.length ≤ 140737488000000) :
    Calls Try.prog 52 #[.pointer (some ⟨ob, oo, none⟩), .bool b] w fun e w' => e = .returned (.tuple #[]) ∧ OutIs w' ⟨ob, oo, none⟩ (l ++ [if b then 1 else 0]) ∧ OnlyN ⟨ob, oo, none⟩ w w' := by
  cases b
  · have hs := Sl.made w #[.int .u8 0] 5 [0] rfl (by decide)
    go_enter Try.func52, Try.ntmps52
    go_wp2_with fail
    refine (put_out ob oo _ 1 1 l [0] _ (ho.alloc (new_below _ _)) rfl hs (by simp; omega)).mono ?_
    rintro e w1 ⟨rfl, hout, hon⟩
    have HO := Lib.hid hout
    clear hout
    go_wp2_with fail
    go_end0
    exact ⟨rfl, HO.out, hon.after_alloc⟩
  · have hs := Sl.made w #[.int .u8 1] 5 [1] rfl (by decide)
    go_enter Try.func52, Try.ntmps52
    go_wp2_with fail
    refine (put_out ob oo _ 1 1 l [1] _ (ho.alloc (new_below _ _)) rfl hs (by simp; omega)).mono ?_
    rintro e w1 ⟨rfl, hout, hon⟩
    have HO := Lib.hid hout
    clear hout
    go_wp2_with fail
    go_end0
    exact ⟨rfl, HO.out, hon.after_alloc⟩

/-- The eight bytes of a number. -/
def longB (n : Int) : List UInt8 := [UInt8.ofNat (n % 256).toNat, UInt8.ofNat (n / 256 % 256).toNat, UInt8.ofNat (n / 65536 % 256).toNat, UInt8.ofNat (n / 16777216 % 256).toNat,
  UInt8.ofNat (n / 4294967296 % 256).toNat, UInt8.ofNat (n / 1099511627776 % 256).toNat, UInt8.ofNat (n / 281474976710656 % 256).toNat, UInt8.ofNat (n / 72057594037927936 % 256).toNat]

theorem longB_cells (n : Int) : u8s (longB n) = [.int .u8 (n % 256), .int .u8 (n / 256 % 256), .int .u8 (n / 65536 % 256), .int .u8 (n / 16777216 % 256),
    .int .u8 (n / 4294967296 % 256), .int .u8 (n / 1099511627776 % 256), .int .u8 (n / 281474976710656 % 256), .int .u8 (n / 72057594037927936 % 256)] := by
  unfold u8s longB
  simp only [List.map_cons, List.map_nil]
  repeat rw [u8_ofNat (by omega) (by omega)]

set_option maxHeartbeats 1000000 in
theorem long_out (ob oo : Nat) (l : List UInt8) (n : Int) (w : World) (ho : OutIs w ⟨ob, oo, none⟩ l) (hb : l.length ≤ 140737488000000) :
    Calls Try.prog 50 #[.pointer (some ⟨ob, oo, none⟩), .int .i64 n] w fun e w' => e = .returned (.tuple #[]) ∧ OutIs w' ⟨ob, oo, none⟩ (l ++ longB n) ∧ OnlyN ⟨ob, oo, none⟩ w w' := by
  go_enter Try.func50, Try.ntmps50
  go_wp2_with fail
  refine wp_loop_rounds 9 ?_
  iterate 9 (rw [rounds_succ]; go_wp2_with fail)
  refine (put_out ob oo _ 8 8 l (longB n) _ (ho.alloc (new_below _ _)) rfl (Sl.made w _ _ (longB n) (longB_cells n).symm (by simp [longB, maxLen])) (by simp [longB]; omega)).mono ?_
  rintro e w1 ⟨rfl, hout, hon⟩
  have HO := Lib.hid hout
  clear hout
  go_wp2_with fail
  go_end0
  exact ⟨rfl, HO.out, hon.after_alloc⟩

/-- A text's bytes: its length's two, and as many as they say. -/
def textB (s : ByteArray) : List UInt8 := smallB (s.size % 65536 : Nat) ++ s.data.toList.take (s.size % 65536)

set_option maxHeartbeats 1000000 in
theorem text_out (ob oo : Nat) (l : List UInt8) (s : ByteArray) (w : World) (ho : OutIs w ⟨ob, oo, none⟩ l) (_hs : s.size ≤ maxLen) (hb : l.length ≤ 140737487000000) :
    Calls Try.prog 68 #[.pointer (some ⟨ob, oo, none⟩), .string s] w fun e w' => e = .returned (.tuple #[]) ∧ OutIs w' ⟨ob, oo, none⟩ (l ++ textB s) ∧ OnlyN ⟨ob, oo, none⟩ w w' := by
  unfold maxLen at _hs
  have h16 : wrap64 (IntKind.u16.wrap (s.size : Int)) = ((s.size % 65536 : Nat) : Int) := by
    rw [IntKind.wrap_u16]
    have := IntWalk.wrap64_in ((s.size : Int) % 65536) ⟨by omega, by omega⟩
    rw [this]
    omega
  have hconv := fun (wx : World) (x : ByteArray) => run_bytes_of_string (P := Try.prog) wx 9 24 5 x Try.underlying9 Try.underlying24 Try.underlying5
  have hlt : s.size % 65536 < 65536 := Nat.mod_lt _ (by omega)
  have hle : s.size % 65536 ≤ s.size := Nat.mod_le _ _
  unfold textB
  generalize s.size % 65536 = n at *
  have hle' : ((n : Nat) : Int) ≤ (s.size : Int) := by omega
  go_enter Try.func68, Try.ntmps68
  go_wp2_with fail
  refine (small_out ob oo l n _ ho (by omega)).mono ?_
  rintro e w1 ⟨rfl, hout, hon⟩
  have HO := Lib.hid hout
  clear hout
  go_wp2_with fail
  have hx : (s.extract 0 n).size = n := by rw [ByteArray.size_extract]; omega
  have hd : (s.extract 0 n).data.toList.length = n := by rw [← hx]; simp
  have hcap := grownCap_ge w1 n 0 5
  have hmax := grownCap_le_maxLen w1 n 0 5 (by unfold maxLen; omega)
  refine (put_out ob oo _ _ n (l ++ smallB n) (s.extract 0 n).data.toList _ (HO.out.alloc (new_below _ _).drew) hd (Sl.bytes w1 (s.extract 0 n) _ _ _ (by omega) hmax) (by rw [hd]; simp [smallB]; omega)).mono ?_
  rintro e w2 ⟨rfl, hout2, hon2⟩
  have HO2 := Lib.hid hout2
  clear hout2 hconv
  go_wp2_with fail
  go_end0
  refine ⟨rfl, ?_, ⟨hon.toOnly.trans ((Only.of_below (new_below _ _).drew).trans hon2.toOnly), fun ao n c A h1 h2 => Nat.le_trans hon.size (Nat.le_trans (new_below _ _).drew.size (hon2.fresh ao n c A h1 h2))⟩⟩
  rw [← List.append_assoc, ← extract_front]
  exact HO2.out

end Go.Proofs.Ytanjbbmgpodbgaa
