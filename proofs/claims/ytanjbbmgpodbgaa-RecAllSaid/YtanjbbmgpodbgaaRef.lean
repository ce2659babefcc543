/-
  The walks of the reference's Small, Long, Text, Truth, and of the law's own Cut: plain bytes in rows of the call's own.
-/
import Derived.Test.YtanjbbmgpodbgaaBegun
import Derived.Test.YtanjbbmgpodbgaaBits
import Derived.Lib.AppendStr
import Derived.Deep.RegionLaw
namespace Go.Proofs.Ytanjbbmgpodbgaa
open Go.RowKit

theorem owns_lit {w : World} (l : List UInt8) (cs : Array Value) (h : cs.toList = u8s l) (hm : l.length ≤ maxLen) :
    (w.alloc (.cells cs 5)).ownsRow w.heap.size 5 1 (.slice (some ⟨w.heap.size, 0, none⟩) l.length l.length) l.length (u8s l) := by
  have hs : cs.size = l.length * 1 := by
    rw [← Array.length_toList, h, u8s_length]; omega
  have := World.ownsRow_lit (base := w.heap.size) (e := 5) (size := 1) w cs l.length (Nat.le_refl _) hm hs
  rw [h] at this
  exact this

set_option maxHeartbeats 400000 in
theorem refSmall_calls (n : Int) (w : World) (_h : -9223372036854775808 ≤ n ∧ n ≤ 9223372036854775807) :
    Calls Try.prog 62 #[.int .i64 n] w fun e w' => e = .returned (.slice (some ⟨w.heap.size, 0, none⟩) 2 2) ∧ w' = w.alloc (.cells #[.int .u8 (n % 256), .int .u8 (n / 256 % 256)] 5) := by
  have m2 := i64_and255 n
  have m3 := i64_and255 (n / 256)
  have hw1 : IntKind.u8.wrap (n % 256) = n % 256 := by rw [IntKind.wrap_u8']; omega
  have hw2 : IntKind.u8.wrap (n / 256 % 256) = n / 256 % 256 := by rw [IntKind.wrap_u8']; omega
  go_enter Try.func62, Try.ntmps62
  go_wp2
  go_ret
  exact ⟨rfl, rfl⟩

theorem refTruth_calls (b : Bool) (w : World) :
    Calls Try.prog 64 #[.bool b] w fun e w' => e = .returned (.slice (some ⟨w.heap.size, 0, none⟩) 1 1) ∧ w' = w.alloc (.cells #[.int .u8 (if b then 1 else 0)] 5) := by
  cases b
  · go_enter Try.func64, Try.ntmps64
    go_wp2
    go_ret
    exact ⟨rfl, rfl⟩
  · go_enter Try.func64, Try.ntmps64
    go_wp2
    go_ret
    exact ⟨rfl, rfl⟩

/-- A row of the call's own that reads as l. -/
def Own (B : Nat) (w : World) (v : Value) (l : List UInt8) : Prop := w.ownsRow B 5 1 v l.length (u8s l)

theorem strCells_u8s (s : ByteArray) : Lib.strCells s = u8s s.data.toList := rfl

theorem step_append_text {ops : Array Oper} {o : Oper} {a : Act} {w : World} {K : Act → World → Prop} {Q : Exit → Act → World → Prop} {E : Prop}
    (hg : o.guard = none) (sl x : Operand) (hop : o.op = Op.call { callee := Callee.builtin Builtin.append, args := #[sl, x], argTypes := #[24, 9] })
    (base : Nat) (v : Value) (l : List UInt8) (hs : a.eval sl = v) (hown : w.ownsRow base 5 1 v l.length (u8s l)) (s : ByteArray) (hx : a.eval x = .string s)
    (hb : l.length + s.size ≤ 140737488355328) (hbase : base ≤ w.heap.size)
    (hK : ∀ v' w', w'.ownsRow base 5 1 v' (l.length + s.size) (u8s (l ++ s.data.toList)) → w.grownBy w' v.ownBlock → K (a.put o.dst v') w') :
    if Region.wanted o (yielded ops a.tmps) = true then Oper.wp Try.prog o a w K Q else E := by
  have hw : Region.wanted o (yielded ops a.tmps) = true := by simp [Region.wanted, hg]
  rw [if_pos hw]
  obtain ⟨i0, hi, hz0, hz1, hz2⟩ := info_parts Try.u8row
  obtain ⟨v', w', hr, h2, h3, _⟩ := Lib.run_append_own_string (P := Try.prog) w base 24 9 o.type 5 i0 Try.underlying24 Try.underlying9 hi hz0 hz1 hz2 v l.length (u8s l) hown s (by unfold maxLen; omega) hb hbase
  unfold Oper.wp execOp
  simp only [hop, resolve, invoke, builtin, Sem.run_bind, Sem.run_pure, Result.andThen_ok, List.map_toArray, List.map_cons, List.map_nil, hs, hx, hr]
  exact hK v' w' (by rw [u8s_append, ← strCells_u8s]; exact h2) h3

set_option maxHeartbeats 1000000 in
theorem refText_calls (s : ByteArray) (w : World) (_hs : s.size ≤ 1000000) :
    Calls Try.prog 65 #[.string s] w fun e w' => ∃ v, e = .returned v ∧ Own w.heap.size w' v (textB s) ∧ Below w.heap.size w w' := by
  have m1 := i64_and65535 (s.size : Int)
  have hlt : s.size % 65536 < 65536 := Nat.mod_lt _ (by omega)
  have hle : s.size % 65536 ≤ s.size := Nat.mod_le _ _
  have hcast : ((s.size : Int) % 65536) = ((s.size % 65536 : Nat) : Int) := by omega
  rw [hcast] at m1
  unfold textB
  generalize s.size % 65536 = n at *
  clear hcast
  have hle' : ((n : Nat) : Int) ≤ (s.size : Int) := by omega
  have hsm := owns_lit (w := w) (smallB n) #[.int .u8 ((n : Int) % 256), .int .u8 ((n : Int) / 256 % 256)] (smallB_cells n).symm (by simp [smallB, maxLen])
  have HSm := Lib.hid hsm
  clear hsm
  go_enter Try.func65, Try.ntmps65
  go_wp2_with fail
  go_region_law (first | (refine step_append_text rfl (.tmp 8) (.tmp 11) rfl w.heap.size _ (smallB n) (by simp [Act.eval]; rfl) HSm.out (s.extract 0 n) (by simp [Act.eval]) (by rw [ByteArray.size_extract]; simp [smallB]; omega) (by simp) ?_; intro v2 w2 hown2 hg2) | (go_simp; go_at_call 62; refine (refSmall_calls n _ (by omega)).mono ?_; rintro e w1 ⟨rfl, rfl⟩))
  go_wp2
  go_ret
  have hx : (s.extract 0 n).size = n := by rw [ByteArray.size_extract]; omega
  refine ⟨v2, rfl, ?_, ?_⟩
  · unfold Own
    rw [← extract_front, List.length_append]
    have : (s.extract 0 n).data.toList.length = n := by rw [← hx]; simp
    rw [this]
    rw [hx] at hown2
    exact hown2
  · exact (new_below w _).drew.grown hg2 (by show w.heap.size ≤ (w.alloc _).heap.size; simp) (by intro k hk; simp [Value.ownBlock] at hk; omega)

theorem longB_at (n : Int) : ∀ k, k < 8 → (longB n).take (k + 1) = (longB n).take k ++ [UInt8.ofNat (n / 2 ^ (8 * k) % 256).toNat]
  | 0, _ => by simp [longB]
  | 1, _ => rfl
  | 2, _ => rfl
  | 3, _ => rfl
  | 4, _ => rfl
  | 5, _ => rfl
  | 6, _ => rfl
  | 7, _ => rfl

set_option maxHeartbeats 1000000 in
theorem refLong_calls (n : Int) (w : World) :
    Calls Try.prog 63 #[.int .i64 n] w fun e w' => ∃ v, e = .returned v ∧ Own w.heap.size w' v (longB n) ∧ Below w.heap.size w w' := by
  go_enter Try.func63, Try.ntmps63
  go_wp2
  go_loopw [3, 4] (fun v i wr => ∃ k : Nat, k ≤ 8 ∧ i = .int .u64 (8 * (k : Int)) ∧ Own w.heap.size wr v ((longB n).take k) ∧ Below w.heap.size w wr) (fun _ i _ => 64 - (intOf i).toNat)
  case atStart => exact ⟨0, by omega, rfl, World.ownsRow_nil _ _ _ _, Below.refl _ _⟩
  case round =>
    obtain ⟨k, hk, rfl, hown, hbel⟩ := hrel
    have HO := Lib.hid hown
    have HB := Lib.hid hbel
    clear hown hbel
    by_cases hlt : k < 8
    · have m2 := i64_and255 (n / 2 ^ (8 * k))
      have hw1 : IntKind.u8.wrap (n / 2 ^ (8 * k) % 256) = n / 2 ^ (8 * k) % 256 := by rw [IntKind.wrap_u8']; omega
      have HL := Lib.hid (longB_at n k hlt)
      have hu := u8_ofNat (n := n / 2 ^ (8 * k) % 256) (by omega) (by omega)
      have HU := Lib.hid hu
      clear hu
      have HM := Lib.hid (Sl.made wr #[.int .u8 (n / 2 ^ (8 * k) % 256)] 5 [UInt8.ofNat (n / 2 ^ (8 * k) % 256).toNat] (by simp only [u8s, List.map_cons, List.map_nil, HU.out]) (by simp [maxLen]))
      have hlen : ((longB n).take k).length ≤ 8 := by simp; omega
      have HO2 := Lib.hid (World.ownsRow.alloc HO.out (.cells #[.int .u8 (n / 2 ^ (8 * k) % 256)] 5))
      go_wp2_with (at_builtin; refine append_bytes rfl (.tmp 9) (.tmp 15) rfl w.heap.size _ ((longB n).take k) rfl HO2.out (some ⟨wr.heap.size, 0, none⟩) 1 [UInt8.ofNat (n / 2 ^ (8 * k) % 256).toNat] rfl HM.out (by simp only [List.length_singleton]; omega) (by have := HB.out.size; simp; omega) ?_)
      intro v2 w2 hown2 hg2 _
      have HB2 := Lib.hid ((HB.out.trans ((new_below wr _).mono HB.out.size)).grown hg2 (by have := HB.out.size; simp; omega) (fun q hq => (HO.out.lt q hq).1))
      have HO3 : Hid (Own w.heap.size w2 v2 ((longB n).take (k + 1))) := by
        show w2.ownsRow w.heap.size 5 1 v2 ((longB n).take (k + 1)).length (u8s ((longB n).take (k + 1)))
        have e := hown2.1
        rw [HL.out]
        have hl : ((longB n).take k ++ [UInt8.ofNat (n / 2 ^ (8 * k) % 256).toNat]).length = ((longB n).take k).length + 1 := by rw [List.length_append]; rfl
        rw [hl]
        first | exact hown2 | (simp only [List.length_take] at hown2 ⊢; exact hown2)
      clear hown2 hg2 HO2 HM HL HU HO HB m2 hw1
      go_wp2
      go_roundw
      case rel => exact ⟨k + 1, by omega, by go_num, HO3.out, HB2.out⟩
      case measure => simp [intOf]; omega
    · obtain rfl : k = 8 := by omega
      go_wp2
      go_ret
      exact ⟨_, rfl, HO.out, HB.out⟩

theorem cut_list (s : ByteArray) (n : Nat) : (s.extract 0 n).data.toList = s.data.toList.take n := extract_front s n

set_option maxHeartbeats 400000 in
theorem cut_calls (s : ByteArray) (n : Nat) (w : World) (_hs : s.size ≤ maxLen) (_hn : n ≤ 1000) :
    Calls Try.prog 15 #[.string s, .int .i64 (n : Int)] w fun e w' => (∃ x : ByteArray, e = .returned (.string x) ∧ x.size ≤ n ∧ x.data.toList = s.data.toList.take n) ∧ w = w' := by
  unfold maxLen at _hs
  by_cases h : s.size ≤ n
  · have hlt : ((s.size : Nat) : Int) ≤ (n : Int) := by omega
    go_enter Try.func15, Try.ntmps15
    go_wp2
    go_ret
    exact ⟨⟨s, rfl, h, by rw [List.take_of_length_le (by simpa using h)]⟩, rfl⟩
  · have hlt : (n : Int) < ((s.size : Nat) : Int) := by omega
    go_enter Try.func15, Try.ntmps15
    go_wp2
    go_ret
    exact ⟨⟨s.extract 0 n, rfl, by rw [ByteArray.size_extract]; omega, extract_front s n⟩, rfl⟩

end Go.Proofs.Ytanjbbmgpodbgaa
